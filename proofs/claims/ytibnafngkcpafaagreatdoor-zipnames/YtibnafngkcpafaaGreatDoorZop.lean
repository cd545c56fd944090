/- open: the end and the directory of an archive of one file are read. -/
import Derived.Test.YtibnafngkcpafaaGreatDoorZen
import Derived.Test.YtibnafngkcpafaaGreatDoorZwr
namespace Go.Proofs.YtibnafngkcpafaaGreatDoor
open Go.RowKit Go.Shelf

attribute [local go_sem] Oper.semAt_some

section
variable {P : Program} {Q : Exit → Act → World → Prop} {n : Nat}
/-- As wp_region_M, in a round. -/
theorem wpIn_region_Mr {l : List Oper} (S : World → Prop) (E : Nat → Bool) {id lp : Nat} {a : Act} {w : World} (k : Nat) (hk : l.toArray.size = k) (hm : P.follows .mixedOrders = true) (hnd : plainOps l = true) (hQ : ∀ a w, ¬ Q .outgrown a w) (h : wpM P l.toArray Q S E k (Array.replicate k false) a w.drew) : (Code.region id l.toArray true).wpIn (Fence.wide.inRound lp) n P Q a w := by
  subst hk
  refine wpIn_region_any hm (wpAnyIn_inRound lp ?_ _ _ _ _ (wpAnyIn_of_any hQ _ _ _ _ (wpAny_of_X (S := S) (E := E) _ _ _ _ h)))
  intro i o ho c e
  have h1 : o ∈ l := by
    have := Array.mem_of_getElem? ho
    simpa using this
  have h2 := List.all_eq_true.1 hnd o h1
  rw [e] at h2
  cases h2
end

theorem libDrop {S : Nat → Prop} {W : World} {b off cap : Nat} {zs : List Int} (h : BytesIn S W (.slice (some ⟨b, off, none⟩) zs.length cap) zs) (p n : Nat) (hp : p + n = zs.length) : Lib.BytesIn W (some ⟨b, off + p, none⟩) n (zs.drop p) := by
  intro _
  refine ⟨b, off + p, rfl, fun i hi => ?_⟩
  obtain ⟨b', off', e, _, hc⟩ := h.at (p + i) (by omega)
  simp at e
  obtain ⟨rfl, rfl⟩ := e
  rw [Nat.add_assoc, hc]
  simp [List.getD]

theorem bytesIn_sub {S : Nat → Prop} {W : World} {b off cap : Nat} {zs : List Int} (h : BytesIn S W (.slice (some ⟨b, off, none⟩) zs.length cap) zs) (p n c : Nat) (hp : p + n ≤ zs.length) : BytesIn S W (.slice (some ⟨b, off + p, none⟩) ((zs.drop p).take n).length c) ((zs.drop p).take n) := by
  rcases Nat.eq_zero_or_pos n with rfl | h0
  · exact .inl ⟨by simp, some ⟨b, off + p, none⟩, c, by simp⟩
  · obtain ⟨b', off', e, hb, _⟩ := h.at p (by omega)
    simp at e
    obtain ⟨rfl, rfl⟩ := e
    refine .inr ⟨b, off + p, c, rfl, hb, fun j hj => ?_⟩
    have hjn : j < n := by simp at hj; omega
    obtain ⟨b', off', e, _, hc⟩ := h.at (p + j) (by omega)
    simp at e
    obtain ⟨rfl, rfl⟩ := e
    rw [Nat.add_assoc, hc]
    simp [hjn]
theorem Tryz.info48 : (Tryz.prog.info? 48).map (fun i => (i.zero, i.size, i.bytes)) = some (some (.agg #[.string .empty, .int .i64 0, .int .i64 0, .int .i64 0, .int .i64 0, .int .i64 0]), 6, 56) := by kernel_rfl
/-- Between the rounds of open. -/
def OpI (w : World) (A M N : Nat) (dat : Value) (frm left : Nat) (s : ByteArray) (m crc st sz at' : Nat) (pre : List Unit) (own : Nat → Prop) (V : World) : Prop :=
  ((pre = [] ∧ Row V A 55 #[dat, .slice none 0 0, .int .i64 (frm : Int), .int .i64 0, .int .i64 (left : Int)] ∧ own = fun k => k = A) ∨
    (pre = [()] ∧ ∃ G c, Row V A 55 #[dat, .slice (some ⟨G, 0, none⟩) 1 c, .int .i64 (frm : Int), .int .i64 0, .int .i64 (left : Int)] ∧ V.ownsRow w.heap.size 48 6 (.slice (some ⟨G, 0, none⟩) 1 c) 1 [.string s, .int .i64 (m : Int), .int .i64 (crc : Int), .int .i64 (st : Int), .int .i64 (sz : Int), .int .i64 (at' : Int)] ∧ N ≤ G ∧ own = fun k => k = A ∨ k = G)) ∧
  Row V w.heap.size 74 #[.pointer (some ⟨A, 0, none⟩)] ∧ Row V (w.heap.size + 1) 4 #[.bool false] ∧ Row V M 3 #[.int .i64 1] ∧ Kept (fun k => k < w.heap.size ∧ k ≠ A) w V

/-- What an archive of one file has at its end. -/
structure OneArc (zs : List Int) (size frm : Nat) : Prop where
  are : AreBytes zs
  small : zs.length ≤ 1048576
  len : zs.length = frm + size + 22
  many : numAt zs (zs.length - 22 + 8) 2 = 1
  hsize : numAt zs (zs.length - 22 + 12) 4 = size
  hfrom : numAt zs (zs.length - 22 + 16) 4 = frm
  ends : (Lib.bytesOf (zs.drop (zs.length - 22)) == Lib.bytesOf (endB 1 size frm)) = true

set_option maxRecDepth 100000 in
set_option maxHeartbeats 8000000 in
theorem open_in (S : Nat → Prop) (A b off cap left : Nat) (zs : List Int) (size frm : Nat) (s : ByteArray) (m crc st sz at' : Nat) (w : World) (hS : ∀ k, S k → k < w.heap.size) (hSA : ¬ S A) (hZ : OneArc zs size frm) (hO : OneEnt ((zs.drop frm).take size) s m crc st sz at') (hcap : zs.length ≤ cap) (hI : BytesIn S w (.slice (some ⟨b, off, none⟩) zs.length cap) zs)
    (hA : Row w A 55 #[(.slice (some ⟨b, off, none⟩) zs.length cap), .slice none 0 0, .int .i64 0, .int .i64 0, .int .i64 (left : Int)]) :
    CallsIn Fence.wide 8 Tryz.prog 24 #[.pointer (some ⟨A, 0, none⟩)] w fun e w' => e = .returned (.bool true) ∧ ∃ G c, Row w' A 55 #[(.slice (some ⟨b, off, none⟩) zs.length cap), .slice (some ⟨G, 0, none⟩) 1 c, .int .i64 (frm : Int), .int .i64 0, .int .i64 (left : Int)] ∧ w'.ownsRow w.heap.size 48 6 (.slice (some ⟨G, 0, none⟩) 1 c) 1 [.string s, .int .i64 (m : Int), .int .i64 (crc : Int), .int .i64 (st : Int), .int .i64 (sz : Int), .int .i64 (at' : Int)] ∧ Kept (fun k => k < w.heap.size ∧ k ≠ A) w w' := by
  have hAl := hA.lt
  obtain ⟨i0, hi, hz0, hz1, hz2⟩ := info_parts Tryz.info48
  have hP := (Row.new w 74 #[.pointer (some ⟨A, 0, none⟩)]).alloc (.cells #[.bool false] 4)
  have hR := Row.new (w.alloc (.cells #[.pointer (some ⟨A, 0, none⟩)] 74)) 4 #[.bool false]
  rw [World.size_alloc] at hR
  have hk1 : Kept (fun k => k < w.heap.size) w ((w.alloc (.cells #[.pointer (some ⟨A, 0, none⟩)] 74)).alloc (.cells #[.bool false] 4)) := ((Kept.refl _ w).alloc (fun _ h => h) _).alloc (fun k (h : k < w.heap.size) => by simp; omega) _
  have hs1 : ((w.alloc (.cells #[.pointer (some ⟨A, 0, none⟩)] 74)).alloc (.cells #[.bool false] 4)).heap.size = w.heap.size + 2 := by simp
  refine callsIn_of_wp_marks Tryz.func24 rfl trivial ?_ rfl
  simp only [Tryz.ntmps24, List.size_toArray, List.length_cons, List.length_nil, Nat.reduceAdd, Nat.reduceSub, Array.replicate_succ, Array.replicate_zero, List.push_toArray, List.append_toArray, List.nil_append, List.cons_append]
  have hA1 := hA.kept hk1 hAl
  have a0 := hA1.cell (i := 0) rfl
  have hl22 : 22 ≤ zs.length := by have := hZ.len; omega
  have hlb : zs.length ≤ 1048576 := hZ.small
  have t22 : ¬ ((zs.length : Int) - 22 < 0) := by omega
  gi_wp2_with fail
  generalize ((w.alloc (.cells #[.pointer (some ⟨A, 0, none⟩)] 74)).alloc (.cells #[.bool false] 4)) = w1 at hP hR hk1 hs1 hA1 a0 ⊢
  have HS1 : Hid (w1.heap.size = w.heap.size + 2) := hs1
  have p0 := hP.cell (i := 0) rfl
  clear hs1
  obtain ⟨en, hen⟩ : ∃ en : Nat, zs.length - 22 = en := ⟨_, rfl⟩
  have hene : (zs.length : Int) - 22 = (en : Int) := by omega
  have HEN : Hid (zs.length = en + 22) := by show _ = _; omega
  have henb : en ≤ 1048576 := by omega
  have HEE : Hid (zs.length - 22 = en) := hen
  clear hen
  have hI1 := hI.kept (hk1.mono hS)
  have hSl : ∀ k, S k → k < w1.heap.size := fun k h => by have := hS k h; have := hk1.size; omega
  have hI1a : BytesIn S (w1.drew.alloc (.cells #[.int .i64 0] 3)) (.slice (some ⟨b, off, none⟩) zs.length cap) zs := hI1.kept (((Kept.refl S w1).drew).alloc hSl _)
  have hI1d : BytesIn S w1.drew (.slice (some ⟨b, off, none⟩) zs.length cap) zs := hI1
  have HX0 : Hid ((fun wx : World => wx.cell? ⟨w.heap.size, 0, none⟩ = some (.pointer (some ⟨A, 0, none⟩)) ∧ wx.cell? ⟨A, 0, none⟩ = some (.slice (some ⟨b, off, none⟩) zs.length cap)) w1.drew) := ⟨hP.cell rfl, hA1.cell rfl⟩
  have HX1 : Hid ((fun wx : World => wx.cell? ⟨w.heap.size, 0, none⟩ = some (.pointer (some ⟨A, 0, none⟩)) ∧ wx.cell? ⟨A, 0, none⟩ = some (.slice (some ⟨b, off, none⟩) zs.length cap)) (w1.drew.alloc (.cells #[.int .i64 0] 3))) := ⟨(hP.kept (((Kept.refl (fun k => k < w1.heap.size) w1).drew).alloc (fun _ h => h) _) hP.lt).cell rfl, (hA1.kept (((Kept.refl (fun k => k < w1.heap.size) w1).drew).alloc (fun _ h => h) _) hA1.lt).cell rfl⟩
  have HW0 : Hid (IntKind.i64.wrap ((en : Int) + 8) = (en : Int) + 8) := by show _ = _; simp [IntKind.wrap, IntKind.bits, IntKind.signed]; omega
  have HC00 : Hid (Calls Tryz.prog 43 #[(.slice (some ⟨b, off, none⟩) zs.length cap), .int .i64 ((en : Int) + 8), .int .i64 2] w1.drew fun e w' => e = .returned (.int .i64 1) ∧ w' = w1.drew) := by have := number_any S _ cap zs (en + 8) 2 w1.drew hZ.are (by omega) (by omega) (by have := HEN.out; omega) hI1d; rw [show ((en + 8 : Nat) : Int) = (en : Int) + 8 by omega, show en + 8 = zs.length - 22 + 8 by rw [HEE.out], hZ.many] at this; exact this
  have HC01 : Hid (Calls Tryz.prog 43 #[(.slice (some ⟨b, off, none⟩) zs.length cap), .int .i64 ((en : Int) + 8), .int .i64 2] (w1.drew.alloc (.cells #[.int .i64 0] 3)) fun e w' => e = .returned (.int .i64 1) ∧ w' = (w1.drew.alloc (.cells #[.int .i64 0] 3))) := by have := number_any S _ cap zs (en + 8) 2 (w1.drew.alloc (.cells #[.int .i64 0] 3)) hZ.are (by omega) (by omega) (by have := HEN.out; omega) hI1a; rw [show ((en + 8 : Nat) : Int) = (en : Int) + 8 by omega, show en + 8 = zs.length - 22 + 8 by rw [HEE.out], hZ.many] at this; exact this
  have HW1 : Hid (IntKind.i64.wrap ((en : Int) + 12) = (en : Int) + 12) := by show _ = _; simp [IntKind.wrap, IntKind.bits, IntKind.signed]; omega
  have HC10 : Hid (Calls Tryz.prog 43 #[(.slice (some ⟨b, off, none⟩) zs.length cap), .int .i64 ((en : Int) + 12), .int .i64 4] w1.drew fun e w' => e = .returned (.int .i64 (size : Int)) ∧ w' = w1.drew) := by have := number_any S _ cap zs (en + 12) 4 w1.drew hZ.are (by omega) (by omega) (by have := HEN.out; omega) hI1d; rw [show ((en + 12 : Nat) : Int) = (en : Int) + 12 by omega, show en + 12 = zs.length - 22 + 12 by rw [HEE.out], hZ.hsize] at this; exact this
  have HC11 : Hid (Calls Tryz.prog 43 #[(.slice (some ⟨b, off, none⟩) zs.length cap), .int .i64 ((en : Int) + 12), .int .i64 4] (w1.drew.alloc (.cells #[.int .i64 0] 3)) fun e w' => e = .returned (.int .i64 (size : Int)) ∧ w' = (w1.drew.alloc (.cells #[.int .i64 0] 3))) := by have := number_any S _ cap zs (en + 12) 4 (w1.drew.alloc (.cells #[.int .i64 0] 3)) hZ.are (by omega) (by omega) (by have := HEN.out; omega) hI1a; rw [show ((en + 12 : Nat) : Int) = (en : Int) + 12 by omega, show en + 12 = zs.length - 22 + 12 by rw [HEE.out], hZ.hsize] at this; exact this
  have HW2 : Hid (IntKind.i64.wrap ((en : Int) + 16) = (en : Int) + 16) := by show _ = _; simp [IntKind.wrap, IntKind.bits, IntKind.signed]; omega
  have HC20 : Hid (Calls Tryz.prog 43 #[(.slice (some ⟨b, off, none⟩) zs.length cap), .int .i64 ((en : Int) + 16), .int .i64 4] w1.drew fun e w' => e = .returned (.int .i64 (frm : Int)) ∧ w' = w1.drew) := by have := number_any S _ cap zs (en + 16) 4 w1.drew hZ.are (by omega) (by omega) (by have := HEN.out; omega) hI1d; rw [show ((en + 16 : Nat) : Int) = (en : Int) + 16 by omega, show en + 16 = zs.length - 22 + 16 by rw [HEE.out], hZ.hfrom] at this; exact this
  have HC21 : Hid (Calls Tryz.prog 43 #[(.slice (some ⟨b, off, none⟩) zs.length cap), .int .i64 ((en : Int) + 16), .int .i64 4] (w1.drew.alloc (.cells #[.int .i64 0] 3)) fun e w' => e = .returned (.int .i64 (frm : Int)) ∧ w' = (w1.drew.alloc (.cells #[.int .i64 0] 3))) := by have := number_any S _ cap zs (en + 16) 4 (w1.drew.alloc (.cells #[.int .i64 0] 3)) hZ.are (by omega) (by omega) (by have := HEN.out; omega) hI1a; rw [show ((en + 16 : Nat) : Int) = (en : Int) + 16 by omega, show en + 16 = zs.length - 22 + 16 by rw [HEE.out], hZ.hfrom] at this; exact this
  clear hI1a hI1d hI1
  gi_wp2_with fail
  refine wpIn_mono (Q := fun e a' w' => e = .normal ∧ a' = { tmps := #[.pointer (some ⟨A, 0, none⟩), .pointer (some ⟨w.heap.size, 0, none⟩), .pointer (some ⟨w.heap.size + 1, 0, none⟩), .int .i64 (en : Int), .pointer (some ⟨w1.heap.size, 0, none⟩), .int .i64 (size : Int), .int .i64 (frm : Int), undef, undef, .pointer (some ⟨A, 0, none⟩), .pointer (some ⟨A, 0, none⟩), .pointer (some ⟨A, 0, none⟩), (.slice (some ⟨b, off, none⟩) zs.length cap), .int .i64 (zs.length : Int), .int .i64 (en : Int), .int .i64 (en : Int), .bool false, .pointer (some ⟨A, 0, none⟩), .pointer (some ⟨A, 0, none⟩), .pointer (some ⟨A, 0, none⟩), (.slice (some ⟨b, off, none⟩) zs.length cap), .int .i64 (en : Int), .int .i64 ((en : Int) + 8), .int .i64 1, .pointer (some ⟨A, 0, none⟩), .pointer (some ⟨A, 0, none⟩), .pointer (some ⟨A, 0, none⟩), (.slice (some ⟨b, off, none⟩) zs.length cap), .int .i64 (en : Int), .int .i64 ((en : Int) + 12), .int .i64 (size : Int), .pointer (some ⟨A, 0, none⟩), .pointer (some ⟨A, 0, none⟩), .pointer (some ⟨A, 0, none⟩), (.slice (some ⟨b, off, none⟩) zs.length cap), .int .i64 (en : Int), .int .i64 ((en : Int) + 16), .int .i64 (frm : Int), undef, undef, undef, undef, undef, undef, undef, undef, undef, undef, undef, undef, undef, undef, undef, undef, undef, undef, undef, undef, undef, undef, undef, undef, undef, undef, undef, undef, undef, undef, undef, undef, undef, undef, undef, undef, undef, undef, undef, undef, undef, undef, undef, undef, undef, undef, undef, undef, undef, undef, undef, undef, undef, undef, undef, undef, undef, undef, undef, undef, undef, undef, undef, undef, undef], defers := [] } ∧ w' = w1.drew.alloc (.cells #[.int .i64 1] 3)) (wpIn_wide.2 (wp_region_M (fun wx : World => wx.cell? ⟨w.heap.size, 0, none⟩ = some (.pointer (some ⟨A, 0, none⟩)) ∧ wx.cell? ⟨A, 0, none⟩ = some (.slice (some ⟨b, off, none⟩) zs.length cap)) (fun j => decide (j ≤ 21)) 25 rfl (by kernel_rfl) ?r4)) ?rest4
  case r4 =>
    refine wpM_held 0 (v := ?_) rfl (by kernel_rfl) (by kernel_rfl) rfl (fun _ _ _ h => by cases h.1) rfl (by rintro wx ⟨hx0, hx1⟩; go_simp <;> rfl) HX0.out ?_
    refine wpM_held 1 (v := ?_) rfl (by kernel_rfl) (by kernel_rfl) rfl (fun _ _ _ h => by cases h.1) rfl (by rintro wx ⟨hx0, hx1⟩; go_simp <;> rfl) HX0.out ?_
    refine wpM_held 2 (v := ?_) rfl (by kernel_rfl) (by kernel_rfl) rfl (fun _ _ _ h => by cases h.1) rfl (by rintro wx ⟨hx0, hx1⟩; go_simp <;> rfl) HX0.out ?_
    refine wpM_held 3 (v := ?_) rfl (by kernel_rfl) (by kernel_rfl) rfl (fun _ _ _ h => by cases h.1) rfl (by rintro wx ⟨hx0, hx1⟩; go_simp <;> rfl) HX0.out ?_
    refine wpM_held 4 (v := ?_) rfl (by kernel_rfl) (by kernel_rfl) rfl (fun _ _ _ h => by cases h.1) rfl (by rintro wx ⟨hx0, hx1⟩; go_simp <;> rfl) HX0.out ?_
    refine wpM_held 5 (v := .int .i64 ((en : Int) + 8)) rfl (by kernel_rfl) (by kernel_rfl) rfl (fun _ _ _ h => by cases h.1) rfl (by rintro wx ⟨hx0, hx1⟩; go_simp; rw [HW0.out]) HX0.out ?_
    refine wpM_held 7 (v := ?_) rfl (by kernel_rfl) (by kernel_rfl) rfl (fun _ _ _ h => by cases h.1) rfl (by rintro wx ⟨hx0, hx1⟩; go_simp <;> rfl) HX0.out ?_
    refine wpM_held 8 (v := ?_) rfl (by kernel_rfl) (by kernel_rfl) rfl (fun _ _ _ h => by cases h.1) rfl (by rintro wx ⟨hx0, hx1⟩; go_simp <;> rfl) HX0.out ?_
    refine wpM_held 9 (v := ?_) rfl (by kernel_rfl) (by kernel_rfl) rfl (fun _ _ _ h => by cases h.1) rfl (by rintro wx ⟨hx0, hx1⟩; go_simp <;> rfl) HX0.out ?_
    refine wpM_held 10 (v := ?_) rfl (by kernel_rfl) (by kernel_rfl) rfl (fun _ _ _ h => by cases h.1) rfl (by rintro wx ⟨hx0, hx1⟩; go_simp <;> rfl) HX0.out ?_
    refine wpM_held 11 (v := ?_) rfl (by kernel_rfl) (by kernel_rfl) rfl (fun _ _ _ h => by cases h.1) rfl (by rintro wx ⟨hx0, hx1⟩; go_simp <;> rfl) HX0.out ?_
    refine wpM_held 12 (v := .int .i64 ((en : Int) + 12)) rfl (by kernel_rfl) (by kernel_rfl) rfl (fun _ _ _ h => by cases h.1) rfl (by rintro wx ⟨hx0, hx1⟩; go_simp; rw [HW1.out]) HX0.out ?_
    refine wpM_held 14 (v := ?_) rfl (by kernel_rfl) (by kernel_rfl) rfl (fun _ _ _ h => by cases h.1) rfl (by rintro wx ⟨hx0, hx1⟩; go_simp <;> rfl) HX0.out ?_
    refine wpM_held 15 (v := ?_) rfl (by kernel_rfl) (by kernel_rfl) rfl (fun _ _ _ h => by cases h.1) rfl (by rintro wx ⟨hx0, hx1⟩; go_simp <;> rfl) HX0.out ?_
    refine wpM_held 16 (v := ?_) rfl (by kernel_rfl) (by kernel_rfl) rfl (fun _ _ _ h => by cases h.1) rfl (by rintro wx ⟨hx0, hx1⟩; go_simp <;> rfl) HX0.out ?_
    refine wpM_held 17 (v := ?_) rfl (by kernel_rfl) (by kernel_rfl) rfl (fun _ _ _ h => by cases h.1) rfl (by rintro wx ⟨hx0, hx1⟩; go_simp <;> rfl) HX0.out ?_
    refine wpM_held 18 (v := ?_) rfl (by kernel_rfl) (by kernel_rfl) rfl (fun _ _ _ h => by cases h.1) rfl (by rintro wx ⟨hx0, hx1⟩; go_simp <;> rfl) HX0.out ?_
    refine wpM_held 19 (v := .int .i64 ((en : Int) + 16)) rfl (by kernel_rfl) (by kernel_rfl) rfl (fun _ _ _ h => by cases h.1) rfl (by rintro wx ⟨hx0, hx1⟩; go_simp; rw [HW2.out]) HX0.out ?_
    refine wpM_two 6 21 rfl rfl (by kernel_rfl) rfl rfl ?_ ?_
    · go_wp2_with fail
      refine Calls.mono HC00.out ?_
      rintro e wx ⟨rfl, rfl⟩
      go_wp2_with fail
      refine ⟨fun _ => HX0.out, ?_⟩
      refine wpM_two 13 21 rfl rfl (by kernel_rfl) rfl rfl ?_ ?_
      · go_wp2_with fail
        refine Calls.mono HC10.out ?_
        rintro e wx ⟨rfl, rfl⟩
        go_wp2_with fail
        refine ⟨fun _ => HX0.out, ?_⟩
        refine wpM_two 20 21 rfl rfl (by kernel_rfl) rfl rfl ?_ ?_
        · go_wp2_with fail
          refine Calls.mono HC20.out ?_
          rintro e wx ⟨rfl, rfl⟩
          go_wp2_with fail
          refine ⟨fun _ => HX0.out, ?_⟩
          refine wpM_one 21 rfl (by kernel_rfl) rfl ?_
          go_wp2_with fail
          refine ⟨fun _ => HX1.out, ?_⟩
          refine wpM_one 22 rfl (by kernel_rfl) rfl ?_
          go_wp2_with fail
          refine ⟨fun h => (by cases h), ?_⟩
          refine wpM_one 23 rfl (by kernel_rfl) rfl ?_
          go_wp2_with fail
          refine ⟨fun h => (by cases h), ?_⟩
          refine wpM_one 24 rfl (by kernel_rfl) rfl ?_
          go_wp2_with fail
          refine ⟨fun h => (by cases h), ?_⟩
          exact wpM_done (by kernel_rfl) ⟨rfl, rfl, rfl⟩
        · go_wp2_with fail
          refine ⟨fun _ => HX1.out, ?_⟩
          refine wpM_one 20 rfl (by kernel_rfl) rfl ?_
          go_wp2_with fail
          refine Calls.mono HC21.out ?_
          rintro e wx ⟨rfl, rfl⟩
          go_wp2_with fail
          refine ⟨fun _ => HX1.out, ?_⟩
          refine wpM_one 22 rfl (by kernel_rfl) rfl ?_
          go_wp2_with fail
          refine ⟨fun h => (by cases h), ?_⟩
          refine wpM_one 23 rfl (by kernel_rfl) rfl ?_
          go_wp2_with fail
          refine ⟨fun h => (by cases h), ?_⟩
          refine wpM_one 24 rfl (by kernel_rfl) rfl ?_
          go_wp2_with fail
          refine ⟨fun h => (by cases h), ?_⟩
          exact wpM_done (by kernel_rfl) ⟨rfl, rfl, rfl⟩
      · go_wp2_with fail
        refine ⟨fun _ => HX1.out, ?_⟩
        refine wpM_one 13 rfl (by kernel_rfl) rfl ?_
        go_wp2_with fail
        refine Calls.mono HC11.out ?_
        rintro e wx ⟨rfl, rfl⟩
        go_wp2_with fail
        refine ⟨fun _ => HX1.out, ?_⟩
        refine wpM_one 20 rfl (by kernel_rfl) rfl ?_
        go_wp2_with fail
        refine Calls.mono HC21.out ?_
        rintro e wx ⟨rfl, rfl⟩
        go_wp2_with fail
        refine ⟨fun _ => HX1.out, ?_⟩
        refine wpM_one 22 rfl (by kernel_rfl) rfl ?_
        go_wp2_with fail
        refine ⟨fun h => (by cases h), ?_⟩
        refine wpM_one 23 rfl (by kernel_rfl) rfl ?_
        go_wp2_with fail
        refine ⟨fun h => (by cases h), ?_⟩
        refine wpM_one 24 rfl (by kernel_rfl) rfl ?_
        go_wp2_with fail
        refine ⟨fun h => (by cases h), ?_⟩
        exact wpM_done (by kernel_rfl) ⟨rfl, rfl, rfl⟩
    · go_wp2_with fail
      refine ⟨fun _ => HX1.out, ?_⟩
      refine wpM_one 6 rfl (by kernel_rfl) rfl ?_
      go_wp2_with fail
      refine Calls.mono HC01.out ?_
      rintro e wx ⟨rfl, rfl⟩
      go_wp2_with fail
      refine ⟨fun _ => HX1.out, ?_⟩
      refine wpM_one 13 rfl (by kernel_rfl) rfl ?_
      go_wp2_with fail
      refine Calls.mono HC11.out ?_
      rintro e wx ⟨rfl, rfl⟩
      go_wp2_with fail
      refine ⟨fun _ => HX1.out, ?_⟩
      refine wpM_one 20 rfl (by kernel_rfl) rfl ?_
      go_wp2_with fail
      refine Calls.mono HC21.out ?_
      rintro e wx ⟨rfl, rfl⟩
      go_wp2_with fail
      refine ⟨fun _ => HX1.out, ?_⟩
      refine wpM_one 22 rfl (by kernel_rfl) rfl ?_
      go_wp2_with fail
      refine ⟨fun h => (by cases h), ?_⟩
      refine wpM_one 23 rfl (by kernel_rfl) rfl ?_
      go_wp2_with fail
      refine ⟨fun h => (by cases h), ?_⟩
      refine wpM_one 24 rfl (by kernel_rfl) rfl ?_
      go_wp2_with fail
      refine ⟨fun h => (by cases h), ?_⟩
      exact wpM_done (by kernel_rfl) ⟨rfl, rfl, rfl⟩
  case rest4 =>
    rintro e a' w' ⟨rfl, rfl, rfl⟩
    have hM : Row _ w1.heap.size 3 #[.int .i64 1] := Row.new w1.drew 3 #[.int .i64 1]
    have hk2 : Kept (fun k => k < w1.heap.size) w1 (w1.drew.alloc (.cells #[.int .i64 1] 3)) := ((Kept.refl _ w1).drew).alloc (fun _ h => h) _
    have hs2 : (w1.drew.alloc (.cells #[.int .i64 1] 3)).heap.size = w1.heap.size + 1 := by simp
    generalize w1.drew.alloc (.cells #[.int .i64 1] 3) = w2 at hM hk2 hs2 ⊢
    have HS2 : Hid (w2.heap.size = w1.heap.size + 1) := hs2
    have hP2 := hP.kept hk2 hP.lt
    have hA2 := hA1.kept hk2 hA1.lt
    have hR2 := hR.kept hk2 hR.lt
    have HX : Hid ((fun wx : World => wx.cell? ⟨w.heap.size, 0, none⟩ = some (.pointer (some ⟨A, 0, none⟩)) ∧ wx.cell? ⟨A, 0, none⟩ = some (.slice (some ⟨b, off, none⟩) zs.length cap) ∧ wx.cell? ⟨w1.heap.size, 0, none⟩ = some (.int .i64 1)) w2.drew) := ⟨hP2.cell rfl, hA2.cell rfl, hM.cell rfl⟩
    have hI2 := (hI.kept (hk1.mono hS)).kept (hk2.mono hSl)
    have HL22 : Hid (zs.length - en = 22) := by have := HEN.out; show _ = _; omega
    have HSF : Hid (frm + size = en) := by have := HEN.out; have := hZ.len; show _ = _; omega
    have HWA : Hid (IntKind.i64.wrap ((frm : Int) + (size : Int)) = (en : Int)) := by have := HSF.out; show _ = _; simp [IntKind.wrap, IntKind.bits, IntKind.signed]; omega
    have hsf1 : size ≤ 1048576 := by have := HSF.out; omega
    have hsf2 : frm ≤ 1048576 := by have := HSF.out; omega
    have hle22 : en + 22 ≤ zs.length := by have := HEN.out; omega
    have HEO : Hid (Calls Tryz.prog 23 #[.int .i64 1, .int .i64 (size : Int), .int .i64 (frm : Int)] w2.drew (Fresh w2.drew (endB 1 size frm))) := endOf_any 1 size frm w2.drew (by omega) (by omega) (by omega)
    clear hs2 a0 p0
    gi_wp2_with fail
    refine wpIn_normal (wpIn_wide.2 (wp_region_M (fun wx : World => wx.cell? ⟨w.heap.size, 0, none⟩ = some (.pointer (some ⟨A, 0, none⟩)) ∧ wx.cell? ⟨A, 0, none⟩ = some (.slice (some ⟨b, off, none⟩) zs.length cap) ∧ wx.cell? ⟨w1.heap.size, 0, none⟩ = some (.int .i64 1)) (fun _ => true) 23 rfl (by kernel_rfl) ?_))
    refine wpM_held 0 (v := ?_) rfl (by kernel_rfl) (by kernel_rfl) rfl (fun _ _ _ h => by cases h.1) rfl (by rintro wx ⟨hx0, hx1, hx2⟩; go_simp <;> rfl) HX.out ?_
    refine wpM_held 1 (v := ?_) rfl (by kernel_rfl) (by kernel_rfl) rfl (fun _ _ _ h => by cases h.1) rfl (by rintro wx ⟨hx0, hx1, hx2⟩; go_simp <;> rfl) HX.out ?_
    refine wpM_held 2 (v := ?_) rfl (by kernel_rfl) (by kernel_rfl) rfl (fun _ _ _ h => by cases h.1) rfl (by rintro wx ⟨hx0, hx1, hx2⟩; go_simp <;> rfl) HX.out ?_
    refine wpM_held 3 (v := ?_) rfl (by kernel_rfl) (by kernel_rfl) rfl (fun _ _ _ h => by cases h.1) rfl (by rintro wx ⟨hx0, hx1, hx2⟩; go_simp <;> rfl) HX.out ?_
    refine wpM_held 4 (v := ?_) rfl (by kernel_rfl) (by kernel_rfl) rfl (fun _ _ _ h => by cases h.1) rfl (by rintro wx ⟨hx0, hx1, hx2⟩; go_simp <;> rfl) HX.out ?_
    refine wpM_held 5 (v := (.slice (some ⟨b, off + en, none⟩) 22 (cap - en))) rfl (by kernel_rfl) (by kernel_rfl) rfl (fun _ _ _ h => by cases h.1) rfl (by rintro wx ⟨hx0, hx1, hx2⟩; go_simp; rw [if_pos (by omega), if_neg (by omega), HL22.out]) HX.out ?_
    refine wpM_held 6 (v := ?_) rfl (by kernel_rfl) (by kernel_rfl) rfl (fun _ _ _ h => by cases h.1) rfl (by rintro wx ⟨hx0, hx1, hx2⟩; go_simp <;> rfl) HX.out ?_
    refine wpM_held 7 (v := ?_) rfl (by kernel_rfl) (by kernel_rfl) rfl (fun _ _ _ h => by cases h.1) rfl (by rintro wx ⟨hx0, hx1, hx2⟩; go_simp <;> rfl) HX.out ?_
    refine wpM_held 8 (v := ?_) rfl (by kernel_rfl) (by kernel_rfl) rfl (fun _ _ _ h => by cases h.1) rfl (by rintro wx ⟨hx0, hx1, hx2⟩; go_simp <;> rfl) HX.out ?_
    refine wpM_one 9 rfl (by kernel_rfl) rfl ?_
    go_wp2_with fail
    refine Calls.mono HEO.out ?_
    clear HEO
    rintro e w3 hfr
    obtain ⟨gl, cl, rfl, hnil, hbi, hbl⟩ := hfr.bytes
    clear hfr
    have hk3 : Kept (fun k => k < w2.heap.size) w2 w3 := ((Kept.refl _ w2).drew).trans (Kept.of_below hbl (fun _ h => h))
    have hP3 := hP2.kept hk3 hP2.lt
    have hA3 := hA2.kept hk3 hA2.lt
    have hR3 := hR2.kept hk3 hR2.lt
    have hM3 := hM.kept hk3 hM.lt
    have hI3 := hI2.kept (hk3.mono (fun k h => by have := hSl k h; have := HS2.out; show k < _; omega))
    have HX3 : Hid ((fun wx : World => wx.cell? ⟨w.heap.size, 0, none⟩ = some (.pointer (some ⟨A, 0, none⟩)) ∧ wx.cell? ⟨A, 0, none⟩ = some (.slice (some ⟨b, off, none⟩) zs.length cap) ∧ wx.cell? ⟨w1.heap.size, 0, none⟩ = some (.int .i64 1)) w3) := ⟨hP3.cell rfl, hA3.cell rfl, hM3.cell rfl⟩
    have HEQ : Hid (Calls Tryz.prog 44 #[(.slice (some ⟨b, off + en, none⟩) 22 (cap - en)), .slice gl (endB 1 size frm).length cl] w3 fun e w' => e = .returned (.bool true) ∧ w' = w3) := by
      have h := Tryz.bytes_Equal_all (some ⟨b, off + en, none⟩) gl 22 (cap - en) (endB 1 size frm).length cl (zs.drop en) (endB 1 size frm) w3 (by simp; have := HEN.out; omega) rfl (libDrop hI3 en 22 (by have := HEN.out; omega)) (libBytes hbi)
      rw [← HEE.out, hZ.ends] at h
      rw [HEE.out] at h
      exact h
    go_wp2_with fail
    refine ⟨fun _ => HX3.out, ?_⟩
    refine wpM_one 10 rfl (by kernel_rfl) rfl ?_
    go_wp2_with fail
    refine Calls.mono HEQ.out ?_
    clear HEQ
    rintro e w3' ⟨rfl, rfl⟩
    go_wp2_with fail
    refine ⟨fun _ => HX3.out, ?_⟩
    have m0 := hM3.cell (i := 0) rfl
    have hwa := HWA.out
    refine wpM_one 11 rfl (by kernel_rfl) rfl ?_
    go_wp2_with fail
    refine ⟨fun _ => HX3.out, ?_⟩
    refine wpM_one 12 rfl (by kernel_rfl) rfl ?_
    go_wp2_with fail
    refine ⟨fun _ => HX3.out, ?_⟩
    refine wpM_one 13 rfl (by kernel_rfl) rfl ?_
    go_wp2_with fail
    refine ⟨fun _ => HX3.out, ?_⟩
    refine wpM_one 14 rfl (by kernel_rfl) rfl ?_
    go_wp2_with fail
    refine ⟨fun _ => HX3.out, ?_⟩
    refine wpM_one 15 rfl (by kernel_rfl) rfl ?_
    go_wp2_with fail
    refine ⟨fun _ => HX3.out, ?_⟩
    refine wpM_one 16 rfl (by kernel_rfl) rfl ?_
    go_wp2_with fail
    refine ⟨fun _ => HX3.out, ?_⟩
    refine wpM_held 17 (v := ?_) rfl (by kernel_rfl) (by kernel_rfl) rfl (fun _ _ _ h => by cases h.1) (by kernel_rfl) (by rintro wx ⟨hx0, hx1, hx2⟩; go_simp <;> rfl) HX3.out ?_
    refine wpM_held 18 (v := ?_) rfl (by kernel_rfl) (by kernel_rfl) rfl (fun _ _ _ h => by cases h.1) (by kernel_rfl) (by rintro wx ⟨hx0, hx1, hx2⟩; go_simp <;> rfl) HX3.out ?_
    refine wpM_held 20 (v := ?_) rfl (by kernel_rfl) (by kernel_rfl) rfl (fun _ _ _ h => by cases h.1) (by kernel_rfl) (by rintro wx ⟨hx0, hx1, hx2⟩; go_simp <;> rfl) HX3.out ?_
    refine wpM_one 19 rfl (by kernel_rfl) rfl ?_
    go_wp2_with fail
    refine ⟨fun _ => HX3.out, ?_⟩
    refine wpM_one 21 rfl (by kernel_rfl) rfl ?_
    go_wp2_with fail
    refine ⟨fun _ => HX3.out, ?_⟩
    refine wpM_one 22 rfl (by kernel_rfl) rfl ?_
    go_wp2_with fail
    refine ⟨fun _ => HX3.out, ?_⟩
    refine wpM_done (by kernel_rfl) ⟨rfl, ?_⟩
    clear m0 hwa
    clear HX HX3 HWA HC00 HC01 HC10 HC11 HC20 HC21 HX0 HX1 HW0 HW1 HW2
    have hfe : frm ≤ en := by have := HSF.out; omega
    have hec : en ≤ cap := by omega
    have q2 := hA3.cell (i := 2) rfl
    have q0 := hA3.cell (i := 0) rfl
    have qf := hA3.frozen 2
    have qp := hP3.cell (i := 0) rfl
    gi_wp2_with fail
    have hA4 := hA3.set 2 (.int .i64 (frm : Int))
    have hk4 : Kept (fun k => k ≠ A) w3' (w3'.setCell ⟨A, 2, none⟩ (.int .i64 (frm : Int))) := (Kept.refl _ w3').setCell (p := ⟨A, 2, none⟩) (fun h => h rfl) _
    have hP4 := hP3.kept hk4 (by show w.heap.size ≠ A; omega)
    have hR4 := hR3.kept hk4 (by show w.heap.size + 1 ≠ A; omega)
    have hM4 := hM3.kept hk4 (by show w1.heap.size ≠ A; have := HS1.out; omega)
    have hI4 := hI3.kept (hk4.mono (fun k hk he => hSA (he ▸ hk)))
    have hks4 : Kept (fun k => k < w.heap.size ∧ k ≠ A) w (w3'.setCell ⟨A, 2, none⟩ (.int .i64 (frm : Int))) := ((hk1.mono (fun _ h => h.1)).trans ((hk2.mono (fun k h => by have := HS1.out; have := h.1; show k < _; omega)).trans (hk3.mono (fun k h => by have := HS1.out; have := HS2.out; have := h.1; show k < _; omega)))).trans (hk4.mono (fun _ h => h.2))
    have hA4 : Row (w3'.setCell ⟨A, 2, none⟩ (.int .i64 (frm : Int))) A 55 #[(.slice (some ⟨b, off, none⟩) zs.length cap), .slice none 0 0, .int .i64 (frm : Int), .int .i64 0, .int .i64 (left : Int)] := hA4
    generalize w3'.setCell ⟨A, 2, none⟩ (.int .i64 (frm : Int)) = w4 at hA4 hk4 hP4 hR4 hM4 hI4 hks4 ⊢
    have HSZ4 : Hid (w1.heap.size < w4.heap.size) := hM4.lt
    have HSE : Hid (en - frm = size) := by have := HSF.out; show _ = _; omega
    have HDL : Hid (((zs.drop frm).take size).length = size) := by have := HEN.out; have := HSF.out; show _ = _; simp; omega
    rw [HSE.out]
    refine ⟨trivial, (callsIn_wide.2 (entries_any (.slice (some ⟨b, off + frm, none⟩) size (cap - frm)) ⟨_, _, _, rfl⟩ w4)).mono ?_⟩
    rintro e w5 ⟨rfl, hw5⟩
    have hB5 : Row w5 w4.heap.size 28 #[(.slice (some ⟨b, off + frm, none⟩) size (cap - frm))] := by subst hw5; exact Row.new w4 28 _
    have hk5 : Kept (fun k => k < w4.heap.size) w4 w5 := by subst hw5; exact (Kept.refl _ w4).alloc (fun _ h => h) _
    have hs5 : w5.heap.size = w4.heap.size + 1 := by subst hw5; simp
    clear hw5
    have hSl4 : ∀ k, S k → k < w4.heap.size := fun k h => by have := hSl k h; have := HSZ4.out; omega
    have hI5 : BytesIn S w5 (.slice (some ⟨b, off + frm, none⟩) ((zs.drop frm).take size).length (cap - frm)) ((zs.drop frm).take size) := bytesIn_sub (hI4.kept (hk5.mono hSl4)) frm size (cap - frm) (by have := HEN.out; have := HSF.out; omega)
    have hol := hO.len
    have hseq := entries_seq 7 S w4.heap.size b (off + frm) (cap - frm) ((zs.drop frm).take size) s m crc st sz at' w5 (fun k h => by have := hSl4 k h; omega) (by omega) hO (by rw [HDL.out]; have := HSF.out; have := HEN.out; omega) (by rw [HDL.out] at hol; have := HSF.out; have := HEN.out; omega) hI5 (by rw [HDL.out]; exact hB5)
    have hA5 := hA4.kept hk5 hA4.lt
    have hP5 := hP4.kept hk5 hP4.lt
    have hR5 := hR4.kept hk5 hR4.lt
    have hM5 := hM4.kept hk5 hM4.lt
    have hks5 : Kept (fun k => k < w.heap.size ∧ k ≠ A) w w5 := hks4.trans (hk5.mono (fun k h => by have := hks4.size; have := h.1; show k < _; omega))
    have HS5 : Hid (w5.heap.size = w4.heap.size + 1) := hs5
    clear q2 q0 qf qp hA4 hP4 hR4 hM4 hI4 hk4 hk5 hs5 hA3 hP3 hR3 hM3 hA2 hP2 hR2 hM hI3 hI2 hk2 hk3 hbi hbl hI5 hB5 hks4 hol
    gi_wp2
    refine wpIn_range_own rfl (by omega) (gf := 57) (lb := #[.pointer (some ⟨w4.heap.size, 0, none⟩)]) rfl trivial (enters_of Tryz.func57 (by kernel_rfl) rfl) hseq (fun k h => by have := HS5.out; omega) (fun _ => rfl)
      (OpI w A w1.heap.size w5.heap.size (.slice (some ⟨b, off, none⟩) zs.length cap) frm left s m crc st sz at') ?mild ?apart ?init (fun _ W => { tmps := #[.pointer (some ⟨A, 0, none⟩), .pointer (some ⟨w.heap.size, 0, none⟩), .pointer (some ⟨w.heap.size + 1, 0, none⟩), .int .i64 (en : Int), .pointer (some ⟨w1.heap.size, 0, none⟩), .int .i64 (size : Int), .int .i64 (frm : Int), .pointer (some ⟨W.heap.size, 0, none⟩), .bool true, .pointer (some ⟨A, 0, none⟩), .pointer (some ⟨A, 0, none⟩), .pointer (some ⟨A, 0, none⟩), (.slice (some ⟨b, off, none⟩) zs.length cap), .int .i64 (zs.length : Int), .int .i64 (en : Int), .int .i64 (en : Int), .bool false, .pointer (some ⟨A, 0, none⟩), .pointer (some ⟨A, 0, none⟩), .pointer (some ⟨A, 0, none⟩), (.slice (some ⟨b, off, none⟩) zs.length cap), .int .i64 (en : Int), .int .i64 ((en : Int) + 8), .int .i64 1, .pointer (some ⟨A, 0, none⟩), .pointer (some ⟨A, 0, none⟩), .pointer (some ⟨A, 0, none⟩), (.slice (some ⟨b, off, none⟩) zs.length cap), .int .i64 (en : Int), .int .i64 ((en : Int) + 12), .int .i64 (size : Int), .pointer (some ⟨A, 0, none⟩), .pointer (some ⟨A, 0, none⟩), .pointer (some ⟨A, 0, none⟩), (.slice (some ⟨b, off, none⟩) zs.length cap), .int .i64 (en : Int), .int .i64 ((en : Int) + 16), .int .i64 (frm : Int), .pointer (some ⟨A, 0, none⟩), .pointer (some ⟨A, 0, none⟩), .pointer (some ⟨A, 0, none⟩), (.slice (some ⟨b, off, none⟩) zs.length cap), .int .i64 (en : Int), (.slice (some ⟨b, off + en, none⟩) 22 (cap - en)), .int .i64 1, .int .i64 (size : Int), .int .i64 (frm : Int), .slice gl (endB 1 size frm).length cl, .bool true, .bool false, .bool false, .int .i64 1, .bool false, .bool false, .bool false, .int .i64 (frm : Int), .int .i64 (size : Int), .int .i64 (en : Int), .int .i64 (en : Int), .bool false, .bool false, .pointer (some ⟨A, 0, none⟩), .int .i64 (frm : Int), .pointer (some ⟨A, 0, none⟩), .pointer (some ⟨A, 2, none⟩), .pointer (some ⟨A, 0, none⟩), .pointer (some ⟨A, 0, none⟩), .pointer (some ⟨A, 0, none⟩), (.slice (some ⟨b, off, none⟩) zs.length cap), .int .i64 (frm : Int), .int .i64 (en : Int), (.slice (some ⟨b, off + frm, none⟩) size (cap - frm)), .func (.func 57) #[] #[.pointer (some ⟨w4.heap.size, 0, none⟩)], .agg #[.string s, .int .i64 (m : Int), .int .i64 (crc : Int), .int .i64 (st : Int), .int .i64 (sz : Int), .int .i64 (at' : Int)], .bool true, undef, undef, undef, undef, undef, undef, undef, undef, undef, undef, undef, undef, undef, undef, undef, undef, undef, undef, undef, undef, undef, undef, undef, undef, undef, undef, undef, undef], defers := [] }) (fun _ W => W.alloc (.cells #[.string s, .int .i64 (m : Int), .int .i64 (crc : Int), .int .i64 (st : Int), .int .i64 (sz : Int), .int .i64 (at' : Int)] 48)) (fun _ W => (Kept.refl _ W).alloc (fun k h => h) _) ?assign ?body ?done
    case mild =>
      rintro pre own V V' ⟨h1, h2, h3, h4, h5⟩ hm
      have e5 := HS5.out
      refine ⟨?_, hm.row h2 (by have := HSZ4.out; have := HS1.out; omega), hm.row h3 (by have := HSZ4.out; have := HS1.out; omega), hm.row h4 (by have := HSZ4.out; omega), h5.trans (hm.kept (fun k hk => ⟨by have := hks5.size; have := hk.1; omega, by have := hk.1; have := HSZ4.out; have := HS1.out; omega, Nat.lt_of_lt_of_le hk.1 h5.size⟩))⟩
      rcases h1 with ⟨e1, h1, h6⟩ | ⟨e1, G, c, h1, h6, h7, h8⟩
      · exact .inl ⟨e1, hm.row h1 (by have := HSZ4.out; have := HS1.out; omega), h6⟩
      · refine .inr ⟨e1, G, c, hm.row h1 (by have := HSZ4.out; have := HS1.out; omega), ⟨h6.1, ?_⟩, h7, h8⟩
        rcases h6.2 with h0 | ⟨g, cap', cur, e, hb, hgg, rest⟩
        · exact .inl h0
        · refine .inr ⟨g, cap', cur, e, hb, hm.block g _ hgg ?_ (.inl rfl), rest⟩
          simp at e
          omega
    case apart =>
      rintro pre own V k ⟨h1, h2, h3, h4, h5⟩ hk
      have e5 := HS5.out
      rcases h1 with ⟨e1, h1, rfl⟩ | ⟨e1, G, c, h1, h6, h7, rfl⟩
      · obtain rfl : k = A := hk
        exact ⟨h1.lt, by
          rintro (h | h)
          · exact hSA h
          · have := HSZ4.out; have := HS1.out; omega⟩
      · rcases hk with rfl | rfl
        · exact ⟨h1.lt, by
            rintro (h | h)
            · exact hSA h
            · have := HSZ4.out; have := HS1.out; omega⟩
        · refine ⟨(h6.lt k rfl).2, ?_⟩
          rintro (h | h)
          · have := hSl4 k h; omega
          · omega
    case init => exact ⟨_, .inl ⟨rfl, hA5, rfl⟩, hP5, hR5, hM5, hks5⟩
    case assign =>
      intro l x W K hK
      gi_wp2
      exact hK
    case body =>
      rintro l pre x own W V hWs hIW hIV hMV rfl
      clear hIW hseq hA5 hP5 hR5 hM5
      obtain ⟨h1, h2, h3, h4, h5⟩ := hIV
      obtain ⟨hAV, rfl⟩ : Row V A 55 #[(.slice (some ⟨b, off, none⟩) zs.length cap), .slice none 0 0, .int .i64 (frm : Int), .int .i64 0, .int .i64 (left : Int)] ∧ own = fun k => k = A := by
        rcases h1 with ⟨_, h1, h6⟩ | ⟨h1, _⟩
        · exact ⟨h1, h6⟩
        · cases h1
      clear h1
      have hXV : Row V W.heap.size 48 #[.string s, .int .i64 (m : Int), .int .i64 (crc : Int), .int .i64 (st : Int), .int .i64 (sz : Int), .int .i64 (at' : Int)] := hMV.row (Row.new W 48 _) (fun h => h)
      have HXB : Hid ((fun wx : World => wx.cell? ⟨w.heap.size, 0, none⟩ = some (.pointer (some ⟨A, 0, none⟩)) ∧ wx.cell? ⟨A, 1, none⟩ = some (.slice none 0 0) ∧ wx.cell? ⟨w1.heap.size, 0, none⟩ = some (.int .i64 1) ∧ wx.cell? ⟨W.heap.size, 0, none⟩ = some (.string s) ∧ wx.cell? ⟨W.heap.size, 1, none⟩ = some (.int .i64 (m : Int)) ∧ wx.cell? ⟨W.heap.size, 2, none⟩ = some (.int .i64 (crc : Int)) ∧ wx.cell? ⟨W.heap.size, 3, none⟩ = some (.int .i64 (st : Int)) ∧ wx.cell? ⟨W.heap.size, 4, none⟩ = some (.int .i64 (sz : Int)) ∧ wx.cell? ⟨W.heap.size, 5, none⟩ = some (.int .i64 (at' : Int))) V.drew) := ⟨h2.cell rfl, hAV.cell rfl, h4.cell rfl, hXV.cell rfl, hXV.cell rfl, hXV.cell rfl, hXV.cell rfl, hXV.cell rfl, hXV.cell rfl⟩
      have b0 := h2.cell (i := 0) rfl
      have b1 := hAV.cell (i := 1) rfl
      have b2 := h4.cell (i := 0) rfl
      gi_wp2
      refine wpIn_region_Mr (fun wx : World => wx.cell? ⟨w.heap.size, 0, none⟩ = some (.pointer (some ⟨A, 0, none⟩)) ∧ wx.cell? ⟨A, 1, none⟩ = some (.slice none 0 0) ∧ wx.cell? ⟨w1.heap.size, 0, none⟩ = some (.int .i64 1) ∧ wx.cell? ⟨W.heap.size, 0, none⟩ = some (.string s) ∧ wx.cell? ⟨W.heap.size, 1, none⟩ = some (.int .i64 (m : Int)) ∧ wx.cell? ⟨W.heap.size, 2, none⟩ = some (.int .i64 (crc : Int)) ∧ wx.cell? ⟨W.heap.size, 3, none⟩ = some (.int .i64 (st : Int)) ∧ wx.cell? ⟨W.heap.size, 4, none⟩ = some (.int .i64 (sz : Int)) ∧ wx.cell? ⟨W.heap.size, 5, none⟩ = some (.int .i64 (at' : Int))) (fun _ => true) 11 rfl (by kernel_rfl) (by kernel_rfl) (fun _ _ h => h) ?_
      refine wpM_one 0 rfl (by kernel_rfl) rfl ?_
      go_wp2_with fail
      refine ⟨fun _ => HXB.out, ?_⟩
      refine wpM_one 1 rfl (by kernel_rfl) rfl ?_
      go_wp2_with fail
      refine ⟨fun _ => HXB.out, ?_⟩
      refine wpM_one 2 rfl (by kernel_rfl) rfl ?_
      go_wp2_with fail
      refine ⟨fun _ => HXB.out, ?_⟩
      refine wpM_held 8 (v := ?_) rfl (by kernel_rfl) (by kernel_rfl) rfl (fun _ _ _ h => h) (by kernel_rfl) (by rintro wx ⟨hx0, hx1, hx2, hx3, hx4, hx5, hx6, hx7, hx8⟩; go_simp <;> rfl) HXB.out ?_
      refine wpM_one 3 rfl (by kernel_rfl) rfl ?_
      go_wp2_with fail
      refine ⟨fun _ => HXB.out, ?_⟩
      refine wpM_one 4 rfl (by kernel_rfl) rfl ?_
      go_wp2_with fail
      refine ⟨fun _ => HXB.out, ?_⟩
      refine wpM_one 5 rfl (by kernel_rfl) rfl ?_
      go_wp2_with fail
      refine ⟨fun _ => HXB.out, ?_⟩
      refine wpM_one 6 rfl (by kernel_rfl) rfl ?_
      go_wp2_with fail
      refine ⟨fun _ => HXB.out, ?_⟩
      refine wpM_one 7 rfl (by kernel_rfl) rfl ?_
      go_wp2_with fail
      refine ⟨fun _ => HXB.out, ?_⟩
      refine wpM_one 9 rfl (by kernel_rfl) rfl ?_
      go_wp2_with fail
      refine ⟨fun _ => HXB.out, ?_⟩
      refine wpM_one 10 rfl (by kernel_rfl) rfl ?_
      go_wp2_with fail
      refine ⟨fun _ => HXB.out, ?_⟩
      refine wpM_done (by kernel_rfl) ?_
      have HSB : Hid (∀ wx, Kept (fun k => k < V.heap.size) V wx → (fun wx : World => wx.cell? ⟨w.heap.size, 0, none⟩ = some (.pointer (some ⟨A, 0, none⟩)) ∧ wx.cell? ⟨A, 1, none⟩ = some (.slice none 0 0) ∧ wx.cell? ⟨w1.heap.size, 0, none⟩ = some (.int .i64 1) ∧ wx.cell? ⟨W.heap.size, 0, none⟩ = some (.string s) ∧ wx.cell? ⟨W.heap.size, 1, none⟩ = some (.int .i64 (m : Int)) ∧ wx.cell? ⟨W.heap.size, 2, none⟩ = some (.int .i64 (crc : Int)) ∧ wx.cell? ⟨W.heap.size, 3, none⟩ = some (.int .i64 (st : Int)) ∧ wx.cell? ⟨W.heap.size, 4, none⟩ = some (.int .i64 (sz : Int)) ∧ wx.cell? ⟨W.heap.size, 5, none⟩ = some (.int .i64 (at' : Int))) wx) := fun wx hk => ⟨(h2.kept hk h2.lt).cell rfl, (hAV.kept hk hAV.lt).cell rfl, (h4.kept hk h4.lt).cell rfl, (hXV.kept hk hXV.lt).cell rfl, (hXV.kept hk hXV.lt).cell rfl, (hXV.kept hk hXV.lt).cell rfl, (hXV.kept hk hXV.lt).cell rfl, (hXV.kept hk hXV.lt).cell rfl, (hXV.kept hk hXV.lt).cell rfl⟩
      clear b0 b1 b2
      gi_wp2
      refine wpIn_region_Mr (fun wx : World => wx.cell? ⟨w.heap.size, 0, none⟩ = some (.pointer (some ⟨A, 0, none⟩)) ∧ wx.cell? ⟨A, 1, none⟩ = some (.slice none 0 0) ∧ wx.cell? ⟨w1.heap.size, 0, none⟩ = some (.int .i64 1) ∧ wx.cell? ⟨W.heap.size, 0, none⟩ = some (.string s) ∧ wx.cell? ⟨W.heap.size, 1, none⟩ = some (.int .i64 (m : Int)) ∧ wx.cell? ⟨W.heap.size, 2, none⟩ = some (.int .i64 (crc : Int)) ∧ wx.cell? ⟨W.heap.size, 3, none⟩ = some (.int .i64 (st : Int)) ∧ wx.cell? ⟨W.heap.size, 4, none⟩ = some (.int .i64 (sz : Int)) ∧ wx.cell? ⟨W.heap.size, 5, none⟩ = some (.int .i64 (at' : Int))) (fun j => decide (j ≤ 9)) 11 rfl (by kernel_rfl) (by kernel_rfl) (fun _ _ h => h) ?_
      have HXB2 : Hid ((fun wx : World => wx.cell? ⟨w.heap.size, 0, none⟩ = some (.pointer (some ⟨A, 0, none⟩)) ∧ wx.cell? ⟨A, 1, none⟩ = some (.slice none 0 0) ∧ wx.cell? ⟨w1.heap.size, 0, none⟩ = some (.int .i64 1) ∧ wx.cell? ⟨W.heap.size, 0, none⟩ = some (.string s) ∧ wx.cell? ⟨W.heap.size, 1, none⟩ = some (.int .i64 (m : Int)) ∧ wx.cell? ⟨W.heap.size, 2, none⟩ = some (.int .i64 (crc : Int)) ∧ wx.cell? ⟨W.heap.size, 3, none⟩ = some (.int .i64 (st : Int)) ∧ wx.cell? ⟨W.heap.size, 4, none⟩ = some (.int .i64 (sz : Int)) ∧ wx.cell? ⟨W.heap.size, 5, none⟩ = some (.int .i64 (at' : Int))) V.drew.drew) := HXB.out
      refine wpM_held 0 (v := ?_) rfl (by kernel_rfl) (by kernel_rfl) rfl (fun _ _ _ h => h) rfl (by rintro wx ⟨hx0, hx1, hx2, hx3, hx4, hx5, hx6, hx7, hx8⟩; go_simp <;> rfl) HXB2.out ?_
      refine wpM_held 1 (v := ?_) rfl (by kernel_rfl) (by kernel_rfl) rfl (fun _ _ _ h => h) rfl (by rintro wx ⟨hx0, hx1, hx2, hx3, hx4, hx5, hx6, hx7, hx8⟩; go_simp <;> rfl) HXB2.out ?_
      refine wpM_held 2 (v := ?_) rfl (by kernel_rfl) (by kernel_rfl) rfl (fun _ _ _ h => h) rfl (by rintro wx ⟨hx0, hx1, hx2, hx3, hx4, hx5, hx6, hx7, hx8⟩; go_simp <;> rfl) HXB2.out ?_
      refine wpM_held 3 (v := ?_) rfl (by kernel_rfl) (by kernel_rfl) rfl (fun _ _ _ h => h) rfl (by rintro wx ⟨hx0, hx1, hx2, hx3, hx4, hx5, hx6, hx7, hx8⟩; go_simp <;> rfl) HXB2.out ?_
      refine wpM_held 4 (v := ?_) rfl (by kernel_rfl) (by kernel_rfl) rfl (fun _ _ _ h => h) rfl (by rintro wx ⟨hx0, hx1, hx2, hx3, hx4, hx5, hx6, hx7, hx8⟩; go_simp <;> rfl) HXB2.out ?_
      refine wpM_held 5 (v := ?_) rfl (by kernel_rfl) (by kernel_rfl) rfl (fun _ _ _ h => h) rfl (by rintro wx ⟨hx0, hx1, hx2, hx3, hx4, hx5, hx6, hx7, hx8⟩; go_simp <;> rfl) HXB2.out ?_
      have hkA : Kept (fun k => k < V.heap.size) V (V.alloc (.cells #[.string s, .int .i64 (m : Int), .int .i64 (crc : Int), .int .i64 (st : Int), .int .i64 (sz : Int), .int .i64 (at' : Int)] 48)).drew.drew := (((Kept.refl _ V).alloc (fun _ h => h) _).drew).drew
      have hXn : Row (V.alloc (.cells #[.string s, .int .i64 (m : Int), .int .i64 (crc : Int), .int .i64 (st : Int), .int .i64 (sz : Int), .int .i64 (at' : Int)] 48)).drew.drew V.heap.size 48 #[.string s, .int .i64 (m : Int), .int .i64 (crc : Int), .int .i64 (st : Int), .int .i64 (sz : Int), .int .i64 (at' : Int)] := Row.new V 48 #[.string s, .int .i64 (m : Int), .int .i64 (crc : Int), .int .i64 (st : Int), .int .i64 (sz : Int), .int .i64 (at' : Int)]
      refine wpM_one 6 rfl (by kernel_rfl) rfl ?_
      go_wp2_with fail
      refine ⟨fun _ => HSB.out _ hkA, ?_⟩
      generalize (V.alloc (.cells #[.string s, .int .i64 (m : Int), .int .i64 (crc : Int), .int .i64 (st : Int), .int .i64 (sz : Int), .int .i64 (at' : Int)] 48)).drew.drew = Va at hkA hXn ⊢
      refine wpM_one 7 rfl (by kernel_rfl) rfl ?_
      refine wpList_append_own2 _ rfl (.tmp 90) (.tmp 92) 53 rfl w.heap.size 48 i0 (.agg #[.string .empty, .int .i64 0, .int .i64 0, .int .i64 0, .int .i64 0, .int .i64 0]) 6 56 Tryz.underlying53 hi hz0 hz1 hz2 rfl (by decide) (.slice none 0 0) 0 [] rfl (World.ownsRow_nil _ _ _ _) ⟨V.heap.size, 0, none⟩ 1 1 [.string s, .int .i64 (m : Int), .int .i64 (crc : Int), .int .i64 (st : Int), .int .i64 (sz : Int), .int .i64 (at' : Int)] rfl rfl (fun j u hu => by rw [Go.WideShapes.add_plain, Nat.zero_add]; exact hXn.cell (by simpa using hu)) (by simp [Value.oneCell']) (by unfold maxLen; omega) (by omega) (by have := hkA.size; have := h5.size; omega) ?_
      intro v' w7 hown' hgrow hblk
      obtain ⟨G, c', rfl⟩ := ownsRow_succ hown'
      have hG : Va.heap.size ≤ G := by
        rcases hblk G rfl with h | h
        · simp [Value.ownBlock] at h
        · exact h
      have hk7 : Kept (fun k => k < Va.heap.size) Va w7 := (Kept.refl _ Va).grown hgrow (fun _ h => h) (fun k h => by simp [Value.ownBlock] at h)
      have hkV7 : Kept (fun k => k < V.heap.size) V w7 := hkA.trans (hk7.mono (fun k (h : k < V.heap.size) => Nat.lt_of_lt_of_le h hkA.size))
      have hA7 := hAV.kept hkV7 hAV.lt
      have z1 := hA7.cell (i := 1) rfl
      have zf := hA7.frozen 1
      have h27 := h2.kept hkV7 h2.lt
      have h37 := h3.kept hkV7 h3.lt
      have h47 := h4.kept hkV7 h4.lt
      go_wp2_with fail
      refine ⟨fun _ => HSB.out _ hkV7, ?_⟩
      refine wpM_one 8 rfl (by kernel_rfl) rfl ?_
      go_wp2_with fail
      refine ⟨fun _ => HSB.out _ hkV7, ?_⟩
      refine wpM_one 9 rfl (by kernel_rfl) rfl ?_
      go_wp2_with fail
      refine ⟨fun _ => HSB.out _ hkV7, ?_⟩
      refine wpM_one 10 rfl (by kernel_rfl) rfl ?_
      go_wp2_with fail
      refine ⟨fun h => (by cases h), ?_⟩
      refine wpM_done (by kernel_rfl) ?_
      have hkE : Kept (fun k => k < V.heap.size ∧ ¬ k = A) V (w7.setCell ⟨A, 1, none⟩ (.slice (some ⟨G, 0, none⟩) (0 + 1) c')) := (hkV7.mono (fun _ h => h.1)).setCell (p := ⟨A, 1, none⟩) (fun h => h.2 rfl) _
      have hneA : Kept (fun k => k ≠ A) w7 (w7.setCell ⟨A, 1, none⟩ (.slice (some ⟨G, 0, none⟩) (0 + 1) c')) := (Kept.refl _ w7).setCell (p := ⟨A, 1, none⟩) (fun h => h rfl) _
      have hGA : G ≠ A := by have := hAV.lt; have := hkA.size; omega
      refine ⟨keepsFrom_of hkE (fun k o hk ho => by subst hk; rw [show V.heap[k]? = _ from hAV] at ho; cases ho; rfl), hkE, _, .inr ⟨rfl, G, c', hA7.set 1 _, owns_kept hown' hneA (fun k hk => by simp [Value.ownBlock] at hk; omega), by have := hkA.size; have := hMV.size; simp only [World.size_alloc] at this; omega, rfl⟩, h27.kept hneA (by show w.heap.size ≠ A; omega), h37.kept hneA (by show w.heap.size + 1 ≠ A; omega), h47.kept hneA (by show w1.heap.size ≠ A; have := HS1.out; omega), h5.trans (hkE.mono (fun k h => ⟨Nat.lt_of_lt_of_le h.1 h5.size, h.2⟩))⟩
    case done =>
      rintro D xs own W hD hE ⟨h1, h2, h3, h4, h5⟩ hKD
      clear hseq hA5 hP5 hR5 hM5
      obtain ⟨G, c, hAV, hGo, hGn, rfl⟩ : ∃ G c, Row W A 55 #[(.slice (some ⟨b, off, none⟩) zs.length cap), .slice (some ⟨G, 0, none⟩) 1 c, .int .i64 (frm : Int), .int .i64 0, .int .i64 (left : Int)] ∧ W.ownsRow w.heap.size 48 6 (.slice (some ⟨G, 0, none⟩) 1 c) 1 [.string s, .int .i64 (m : Int), .int .i64 (crc : Int), .int .i64 (st : Int), .int .i64 (sz : Int), .int .i64 (at' : Int)] ∧ w5.heap.size ≤ G ∧ own = fun k => k = A ∨ k = G := by
        rcases h1 with ⟨h1, _⟩ | ⟨_, h1⟩
        · rw [hE] at h1; cases h1
        · exact h1
      clear h1
      have HXD : Hid ((fun wx : World => wx.cell? ⟨w.heap.size, 0, none⟩ = some (.pointer (some ⟨A, 0, none⟩)) ∧ wx.cell? ⟨A, 1, none⟩ = some (.slice (some ⟨G, 0, none⟩) 1 c) ∧ wx.cell? ⟨w1.heap.size, 0, none⟩ = some (.int .i64 1)) W.drew) := ⟨h2.cell rfl, hAV.cell rfl, h4.cell rfl⟩
      have b1 := hAV.cell (i := 1) rfl
      have b2 := h4.cell (i := 0) rfl
      have r0 := h3.cell (i := 0) rfl
      have rf := h3.frozen 0
      gi_wp2
      refine wpIn_normal (wpIn_wide.2 (wp_region_M (fun wx : World => wx.cell? ⟨w.heap.size, 0, none⟩ = some (.pointer (some ⟨A, 0, none⟩)) ∧ wx.cell? ⟨A, 1, none⟩ = some (.slice (some ⟨G, 0, none⟩) 1 c) ∧ wx.cell? ⟨w1.heap.size, 0, none⟩ = some (.int .i64 1)) (fun j => decide (j ≤ 6)) 8 rfl (by kernel_rfl) ?_))
      refine wpM_held 0 (v := ?_) rfl (by kernel_rfl) (by kernel_rfl) rfl (fun _ _ _ h => by cases h.1) rfl (by rintro wx ⟨hx0, hx1, hx2⟩; go_simp <;> rfl) HXD.out ?_
      refine wpM_held 1 (v := ?_) rfl (by kernel_rfl) (by kernel_rfl) rfl (fun _ _ _ h => by cases h.1) rfl (by rintro wx ⟨hx0, hx1, hx2⟩; go_simp <;> rfl) HXD.out ?_
      refine wpM_held 2 (v := ?_) rfl (by kernel_rfl) (by kernel_rfl) rfl (fun _ _ _ h => by cases h.1) rfl (by rintro wx ⟨hx0, hx1, hx2⟩; go_simp <;> rfl) HXD.out ?_
      refine wpM_held 3 (v := ?_) rfl (by kernel_rfl) (by kernel_rfl) rfl (fun _ _ _ h => by cases h.1) rfl (by rintro wx ⟨hx0, hx1, hx2⟩; go_simp <;> rfl) HXD.out ?_
      refine wpM_held 4 (v := ?_) rfl (by kernel_rfl) (by kernel_rfl) rfl (fun _ _ _ h => by cases h.1) rfl (by rintro wx ⟨hx0, hx1, hx2⟩; go_simp <;> rfl) HXD.out ?_
      refine wpM_held 5 (v := ?_) rfl (by kernel_rfl) (by kernel_rfl) rfl (fun _ _ _ h => by cases h.1) rfl (by rintro wx ⟨hx0, hx1, hx2⟩; go_simp <;> rfl) HXD.out ?_
      refine wpM_one 6 rfl (by kernel_rfl) rfl ?_
      go_wp2_with fail
      refine ⟨fun _ => HXD.out, ?_⟩
      refine wpM_one 7 rfl (by kernel_rfl) rfl ?_
      go_wp2_with fail
      refine ⟨fun h => (by cases h), ?_⟩
      refine wpM_done (by kernel_rfl) ⟨rfl, ?_⟩
      gi_wp2
      have hkW : Kept (fun k => k ≠ w.heap.size + 1) W (W.setCell ⟨w.heap.size + 1, 0, none⟩ (.bool true)).drew := ((Kept.refl _ W).setCell (p := ⟨w.heap.size + 1, 0, none⟩) (fun h => h rfl) _).drew
      have hR9 : Row (W.setCell ⟨w.heap.size + 1, 0, none⟩ (.bool true)).drew (w.heap.size + 1) 4 #[.bool true] := h3.set 0 (.bool true)
      have hDn : w.heap.size + 1 < D := by have := HS5.out; have := HSZ4.out; have := HS1.out; omega
      have hD9 := (hkW.block D (by show D ≠ _; omega)).trans hKD
      have hA9 := hAV.kept hkW (by show A ≠ _; omega)
      have hG9 := owns_kept hGo hkW (fun k hk => by simp [Value.ownBlock] at hk; have := HS5.out; have := HSZ4.out; have := HS1.out; show k ≠ _; omega)
      have hK9 := h5.trans (hkW.mono (fun k h => by have := h.1; show k ≠ _; omega))
      generalize (W.setCell ⟨w.heap.size + 1, 0, none⟩ (.bool true)).drew = W9 at hR9 hD9 hA9 hG9 hK9 ⊢
      have hkD : Kept (fun k => k ≠ D) W9 (W9.putObj D (.deferred none)) := Kept.putObj W9 D _ (fun h => h rfl)
      have hcR := (hR9.kept hkD (by show w.heap.size + 1 ≠ D; omega)).cell (i := 0) rfl
      have hGD : G ≠ D := fun e => by
        subst e
        rcases hG9.2 with ⟨e, _⟩ | ⟨g, cap', cur, e, hb, hgg, rest⟩
        · simp at e
        · simp at e; obtain ⟨rfl, _⟩ := e; rw [hD9] at hgg; cases hgg
      refine ⟨by simp, .inl ⟨_, _, rfl, run_takeDeferred hD9, ?_⟩⟩
      refine ⟨.bool true, by simp [results, Tryz.f24, go_sem, hcR], rfl, G, c, hA9.kept hkD (by show A ≠ D; omega), owns_kept hG9 hkD (fun k hk => by simp [Value.ownBlock] at hk; subst hk; exact hGD), hK9.trans (hkD.mono (fun k h => by have := h.1; show k ≠ D; omega))⟩
end Go.Proofs.YtibnafngkcpafaaGreatDoor
