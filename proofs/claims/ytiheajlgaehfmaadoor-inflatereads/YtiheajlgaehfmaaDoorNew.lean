import Derived.Test.YtiheajlgaehfmaaDoorAps
import Derived.Test.YtiheajlgaehfmaaDoorCntM
import Derived.Test.YtiheajlgaehfmaaDoorNxt
import Derived.Deep.RegionWith
/- New: a decoder out of lengths. -/
namespace Go.Proofs.YtiheajlgaehfmaaDoor
open Go.RowKit

set_option maxRecDepth 100000 in
set_option maxHeartbeats 2000000 in
theorem new_err (S : Nat → Prop) (a : Option Addr) (cap : Nat) (zs : List Int) (w : World) (hS : ∀ k, S k → k < w.heap.size) (hI : IntsIn S w (.slice a zs.length cap) zs) (h : errOf zs ≠ 0) :
    Calls Tryd.prog 55 #[.slice a zs.length cap] w fun e w' => e = .returned (.tuple #[.pointer none, .int .i64 (errOf zs)]) ∧ Below w.heap.size w w' := by
  have hz := (zero_of_info Tryd.info53).1
  have hc := check_any S a cap zs w hS hI
  rw [show tabOf zs = tab [] by rw [tabOf, if_neg h]] at hc
  have ht : (errOf zs != 0) = true := by simpa using h
  generalize errOf zs = r at hc ht
  go_enter Tryd.func55, Tryd.ntmps55
  go_wp2_with fail
  refine hc.mono ?_
  rintro e w1 ⟨rfl, hB⟩
  have R1 := Row.new w1 108 (tab [])
  have hs1 := store53 [] R1 (tab_size _)
  have hlt := hB.size
  have HB : Hid (Below w.heap.size w ((w1.alloc (.cells (tab []) 108)).setRow w1.heap.size (tab []))) := below_setRow (hB.alloc hlt _) hlt _
  clear R1 hB hc hI
  go_wp2
  exact bodyPost_ret (v := .tuple #[.pointer none, .int .i64 r]) (by simp [results, Tryd.f55, go_sem]) rfl ⟨rfl, HB.out⟩

/-- The sixteen cells of a decoder. -/
def decA (zs : List Int) (v : Value) : Array Value := tab zs ++ #[v]
theorem decA_size (zs : List Int) (v : Value) : (decA zs v).size = 16 := by simp [decA, tab_size]
theorem decA_last (zs : List Int) (v : Value) : (decA zs v)[15]? = some v := by
  rw [decA, Array.getElem?_append_right (by rw [tab_size]; omega), tab_size]
  rfl
theorem decA_at (zs : List Int) (v : Value) (i : Nat) (h : i < 15) : (decA zs v)[i]? = some (.int .i64 (cnt zs (i + 1))) := by
  rw [decA, Array.getElem?_append_left (by rw [tab_size]; omega), tab_at zs i h]
theorem decA_set (zs : List Int) (v v' : Value) : (decA zs v).setIfInBounds 15 v' = decA zs v' := by
  apply Array.ext_getElem?
  intro i
  rw [Array.getElem?_setIfInBounds, decA_size]
  by_cases hi : i < 15
  · rw [if_neg (by omega), decA_at _ _ i hi, decA_at _ _ i hi]
  · by_cases e : i = 15
    · subst e
      rw [if_pos rfl, if_pos (by omega), decA_last]
    · rw [if_neg (by omega), Array.getElem?_eq_none (by rw [decA_size]; omega), Array.getElem?_eq_none (by rw [decA_size]; omega)]
theorem build16 (a1 a2 a3 a4 a5 a6 a7 a8 a9 a10 a11 a12 a13 a14 a15 : Value) : Array.foldl (fun (cs : Array Value) (x : Value × Nat) => cs.setIfInBounds x.snd x.fst)
    #[Value.int .i64 0, Value.int .i64 0, Value.int .i64 0, Value.int .i64 0, Value.int .i64 0, Value.int .i64 0, Value.int .i64 0, Value.int .i64 0, Value.int .i64 0, Value.int .i64 0, Value.int .i64 0, Value.int .i64 0, Value.int .i64 0, Value.int .i64 0, Value.int .i64 0, Value.slice none 0 0]
    (#[a1, a2, a3, a4, a5, a6, a7, a8, a9, a10, a11, a12, a13, a14, a15] : Array Value).zipIdx 0 15 = #[a1, a2, a3, a4, a5, a6, a7, a8, a9, a10, a11, a12, a13, a14, a15] ++ #[Value.slice none 0 0] := by
  simp [List.zipIdx]
theorem decA_build (zs : List Int) : Array.foldl (fun (cs : Array Value) (x : Value × Nat) => cs.setIfInBounds x.snd x.fst)
    #[Value.int .i64 0, Value.int .i64 0, Value.int .i64 0, Value.int .i64 0, Value.int .i64 0, Value.int .i64 0, Value.int .i64 0, Value.int .i64 0, Value.int .i64 0, Value.int .i64 0, Value.int .i64 0, Value.int .i64 0, Value.int .i64 0, Value.int .i64 0, Value.int .i64 0, Value.slice none 0 0]
    (tab zs).zipIdx 0 15 = decA zs (.slice none 0 0) := by
  rw [decA, ← tab_fold]
  exact build16 _ _ _ _ _ _ _ _ _ _ _ _ _ _ _
/-- The symbols as numbers of Go. -/
def symI (zs : List Int) (k : Nat) : List Int := (symsTo zs k).map (fun n : Nat => (n : Int))
theorem symI_succ (zs : List Int) (k : Nat) : symI zs (k + 1) = symI zs k ++ (ofF zs ((k : Int) + 1) zs.length).map (fun x => (x.1 : Int)) := by
  simp [symI, symsTo, List.map_append, List.map_map]
theorem symI_length (zs : List Int) (k : Nat) : (symI zs k).length = nsum zs k := by rw [symI, List.length_map, symsTo_length]
theorem nsum_bd (zs : List Int) (h : zs.length ≤ 320) (k : Nat) : nsum zs k ≤ k * 320 := by
  induction k with
  | zero => simp [nsum]
  | succ k ih =>
    have := cnt_le zs (k + 1)
    rw [nsum]
    omega
/-- A decoder that is being made. -/
def DecAt (base : Nat) (zs : List Int) (k D : Nat) (W : World) : Prop := ∃ v, Row W D 112 (decA zs v) ∧ W.ownsRow base 3 1 v (symI zs k).length ((symI zs k).map (Value.int .i64))

set_option maxRecDepth 100000 in
set_option maxHeartbeats 4000000 in
theorem new_ok (S : Nat → Prop) (a : Option Addr) (cap : Nat) (zs : List Int) (w : World) (hS : ∀ k, S k → k < w.heap.size) (hI : IntsIn S w (.slice a zs.length cap) zs) (h : errOf zs = 0) (h320 : zs.length ≤ 320) :
    Calls Tryd.prog 55 #[.slice a zs.length cap] w fun e w' => ∃ D, e = .returned (.tuple #[.pointer (some ⟨D, 0, none⟩), .int .i64 0]) ∧ w.heap.size ≤ D ∧ DecAt w.heap.size zs 15 D w' ∧ Below w.heap.size w w' := by
  have hz := (zero_of_info Tryd.info53).1
  have hc := check_any S a cap zs w hS hI
  rw [show tabOf zs = tab zs by rw [tabOf, if_pos h], h] at hc
  go_enter Tryd.func55, Tryd.ntmps55
  go_wp2_with fail
  refine hc.mono ?_
  rintro e w1 ⟨rfl, hB⟩
  have R1 := Row.new w1 108 (tab [])
  have hs1 := store53 zs R1 (tab_size _)
  have R2 := R1.setRow (tab zs)
  have hlt := hB.size
  have HB : Hid (Below w.heap.size w ((w1.alloc (.cells (tab []) 108)).setRow w1.heap.size (tab zs))) := below_setRow (hB.alloc hlt _) hlt _
  clear R1 hB hc
  obtain ⟨w2, HW⟩ : ∃ w2, Hid (w2 = (w1.alloc (.cells (tab []) 108)).setRow w1.heap.size (tab zs)) := ⟨_, rfl⟩
  rw [← HW.out] at hs1 HB R2
  clear HW
  obtain ⟨t1, t2, t3, t4, t5, t6, t7, t8, t9, t10, t11, t12, t13, t14, t15⟩ := R2.tab
  have hfold := tab_fold zs
  go_wp2_with fail
  rw [decA_build]
  have hR := Row.new w2 112 (decA zs (.slice none 0 0))
  have hBl : Below w.heap.size w (w2.alloc (.cells (decA zs (.slice none 0 0)) 112)) := HB.out.alloc HB.out.size _
  obtain ⟨D, HD⟩ : ∃ D, w2.heap.size = D := ⟨_, rfl⟩
  have hwD : w.heap.size ≤ D := HD ▸ HB.out.size
  rw [HD] at hR ⊢
  generalize w2.alloc (.cells (decA zs (.slice none 0 0)) 112) = w3 at hR hBl ⊢
  clear t1 t2 t3 t4 t5 t6 t7 t8 t9 t10 t11 t12 t13 t14 t15 hfold hs1 R2 HB HD
  generalize (Value.agg (decA zs (.slice none 0 0))) = Vag
  go_loopw [19] (fun i wr => ∃ k : Nat, k ≤ 15 ∧ i = .int .i64 k ∧ DecAt w.heap.size zs k D wr ∧ Below w.heap.size w wr) (fun i _ => 15 - (intOf i).toNat)
  case atStart => exact ⟨0, by omega, rfl, ⟨_, hR, World.ownsRow_nil _ _ _ _⟩, hBl⟩
  case round =>
    clear hR hBl
    obtain ⟨k, hk, rfl, ⟨v, hD, hv⟩, hBr⟩ := hrel
    by_cases hlt : k < 15
    · obtain ⟨gv, cv, rfl⟩ := owns_form hv
      have HO : Hid (∀ W : World, Calls Tryd.prog 72 #[.slice a zs.length cap, .int .i64 (IntKind.i64.wrap ((k : Int) + 1))] W fun e w' => e = .returned (.func (.func 83) #[] #[.pointer (some ⟨W.heap.size, 0, none⟩), .pointer (some ⟨W.heap.size + 1, 0, none⟩)]) ∧
          w' = (W.alloc (.cells #[.slice a zs.length cap] 32)).alloc (.cells #[.int .i64 ((k : Int) + 1)] 3)) := fun W => by
        rw [show IntKind.i64.wrap ((k : Int) + 1) = (k : Int) + 1 by simp [IntKind.wrap, IntKind.bits, IntKind.signed]; omega]
        exact callsIn_wide.1 (ofLength_in Fence.wide 6 trivial rfl a zs.length cap _ W)
      have HA : Hid (∀ w4 : World, w4 = (wr.drew.alloc (.cells #[.slice a zs.length cap] 32)).alloc (.cells #[.int .i64 ((k : Int) + 1)] 3) →
          w4.cell? ⟨D, 15, none⟩ = some (.slice gv (symI zs k).length cv) ∧
          Calls Tryd.prog 71 #[.slice gv (symI zs k).length cv, .func (.func 83) #[] #[.pointer (some ⟨wr.heap.size, 0, none⟩), .pointer (some ⟨wr.heap.size + 1, 0, none⟩)]] w4 fun e w5 => ∃ g5 n5 c5, e = .returned (.slice g5 n5 c5) ∧
            w5.cell? ⟨D, 15, none⟩ = some (.slice gv (symI zs k).length cv) ∧ w5.frozen? ⟨D, 15, none⟩ = false ∧ DecAt w.heap.size zs (k + 1) D (w5.setCell ⟨D, 15, none⟩ (.slice g5 n5 c5)) ∧ Below w.heap.size w (w5.setCell ⟨D, 15, none⟩ (.slice g5 n5 c5))) := by
        intro w4 hw4
        have hs4 : w4.heap.size = wr.heap.size + 2 := by rw [hw4, World.size_alloc, World.size_alloc]; rfl
        have k4 : Kept (· < wr.heap.size) wr w4 := by
          rw [hw4]
          exact (((Kept.refl _ wr).drew).alloc (fun x hx => hx) _).alloc (fun x hx => by have h9 : x < wr.heap.size := hx; rw [World.size_alloc]; exact Nat.lt_succ_of_lt h9) _
        have hD4 := hD.kept k4 hD.lt
        have hv4 := owns_kept hv k4 (fun x hx => (hv.lt x hx).2)
        have b0 : w4.cell? ⟨wr.heap.size, 0, none⟩ = some (.slice a zs.length cap) := by
          rw [hw4]
          exact ((Boxed.new wr.drew 32 (.slice a zs.length cap)).alloc _).cell
        have b1 : w4.cell? ⟨wr.heap.size + 1, 0, none⟩ = some (.int .i64 ((k : Int) + 1)) := by
          rw [hw4]
          have := (Boxed.new (wr.drew.alloc (.cells #[.slice a zs.length cap] 32)) 3 (.int .i64 ((k : Int) + 1))).cell
          rw [World.size_alloc] at this
          exact this
        have hIT : IntsIn (fun x => x < w4.heap.size ∧ (Value.slice gv (symI zs k).length cv).ownBlock ≠ some x) w4 (.slice a zs.length cap) zs := by
          refine ((hI.kept (Kept.of_below hBr hS)).kept (k4.mono (fun x hx => by have := hS x hx; have := hBr.size; show x < _; omega))).mono (fun x hx => ⟨by have := hS x hx; have := hBr.size; omega, fun e => ?_⟩)
          have := (hv.lt x e).1
          have := hS x hx
          omega
        have hap := aps_in (fun x => x < w4.heap.size ∧ (Value.slice gv (symI zs k).length cv).ownBlock ≠ some x) wr.heap.size w.heap.size _ (symI zs k) ((k : Int) + 1) _ zs h320 (by rw [symI_length]; have := nsum_bd zs h320 k; omega) w4 (fun x hx => hx.1)
          ⟨by omega, fun e => by have := (hv.lt _ e).2; omega⟩ ⟨by omega, fun e => by have := (hv.lt _ e).2; omega⟩ (by have := hBr.size; omega) b0 b1 hIT hv4 (fun x hx hT => hT.2 hx)
        refine ⟨hD4.cell (decA_last _ _), (callsIn_wide.1 hap).mono ?_⟩
        rintro e w5 ⟨v5, ys5, rfl, rfl, ho5, hn5, hk5⟩
        obtain ⟨g5, c5, rfl⟩ := owns_form ho5
        have hD5 := hD4.kept hk5 ⟨hD4.lt, row_ne hv4 hD4 (show (112 : Nat) ≠ 3 by decide)⟩
        have hne5 := row_ne ho5 hD5 (show (112 : Nat) ≠ 3 by decide)
        refine ⟨g5, _, c5, rfl, hD5.cell (decA_last _ _), hD5.frozen _, ⟨.slice g5 (symI zs k ++ (ofF zs ((k : Int) + 1) zs.length).map (fun x => (x.1 : Int))).length c5, ?_, ?_⟩, ?_⟩
        · have := hD5.set 15 (.slice g5 (symI zs k ++ (ofF zs ((k : Int) + 1) zs.length).map (fun x => (x.1 : Int))).length c5)
          rwa [decA_set] at this
        · rw [symI_succ]
          exact owns_kept ho5 ((Kept.refl (fun x => x ≠ D) w5).setCell (p := ⟨D, 15, none⟩) (by simp) _) (fun x hx e => hne5 (e ▸ hx))
        · have hkb : Kept (· < w.heap.size) wr w5 := (k4.mono (fun x hx => by have : x < w.heap.size := hx; have := hBr.size; show x < _; omega)).trans (hk5.mono (fun x hx => by
            have hx' : x < w.heap.size := hx
            exact ⟨by have := hBr.size; omega, fun e => by have := (hv.lt x e).1; omega⟩))
          exact (hBr.trans (hkb.below (fun _ h => h))).setCell (p := ⟨D, 15, none⟩) (by simp; omega) _
      have cD := hD.cell (decA_last _ _)
      have HL : Hid (k < 15) := hlt
      clear hD hv hBr hI
      go_wp2_with fail
      go_region_with (first | (go_at_call 72; refine Calls.mono (HO.out _) ?_; rintro e w4 ⟨rfl, hw4⟩; obtain ⟨cD4, hcall⟩ := HA.out w4 hw4; clear hw4) | (go_at_call 71; refine Calls.mono hcall ?_; rintro e w5 ⟨g5, n5, c5, rfl, cD5, fD5, hDec, hBel⟩))
      all_goals go_wp2
      all_goals exact ⟨⟨k + 1, by have := HL.out; omega, by go_num, hDec, hBel⟩, by have := HL.out; simp [intOf]; omega⟩
    · obtain rfl : k = 15 := by omega
      go_wp2
      exact bodyPost_ret (v := .tuple #[.pointer (some ⟨D, 0, none⟩), .int .i64 0]) (by simp [results, Tryd.f55, go_sem]) rfl ⟨D, rfl, hwD, ⟨v, hD, hv⟩, hBr⟩
end Go.Proofs.YtiheajlgaehfmaaDoor
