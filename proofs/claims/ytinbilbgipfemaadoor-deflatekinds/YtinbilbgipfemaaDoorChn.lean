import Derived.Test.YtinbilbgipfemaaDoorHsh
import Derived.Test.YtinbilbgipfemaaDoorBrk
import Derived.Shelf.Abstract
import Derived.Shelf.RegionOpen
import Derived.WalkKit
import Derived.OwnWalkIn
import Derived.TacticsInMore
import Derived.LoopNIn
import Derived.LoopIn
/- The chain of places at which three bytes of one hash begin. -/
namespace Go.Proofs.YtinbilbgipfemaaDoor
open Go.RowKit Go.Shelf

attribute [local go_sem] Oper.semAt_some

/-- What the chains are when the places ahead of p have been entered. -/
structure ChainOk (T : List Int) (m p : Nat) (hs bs : List Int) : Prop where
  head : ∀ k, k < m → hs[k]?.getD 0 = -1 ∨ (0 ≤ hs[k]?.getD 0 ∧ hs[k]?.getD 0 < (p : Int) ∧ hs[k]?.getD 0 + 3 ≤ (T.length : Int))
  next : ∀ q : Nat, q < p → q + 3 ≤ T.length → bs[q]?.getD 0 = -1 ∨ (0 ≤ bs[q]?.getD 0 ∧ bs[q]?.getD 0 < (q : Int))
  last : 1 ≤ p → p + 2 ≤ T.length → hs[hashN T m (p - 1)]?.getD 0 = (p : Int) - 1

theorem getD_set_eq (l : List Int) (i : Nat) (v : Int) (h : i < l.length) : (l.set i v)[i]?.getD 0 = v := by
  rw [List.getElem?_set_self h]; rfl
theorem getD_set_ne (l : List Int) (i j : Nat) (v : Int) (h : i ≠ j) : (l.set i v)[j]?.getD 0 = l[j]?.getD 0 := by
  rw [List.getElem?_set_ne h]

theorem ChainOk.enter {T : List Int} {m p : Nat} {hs bs : List Int} (h : ChainOk T m p hs bs) (hT : AreBytes T) (hm : 1 ≤ m) (hlh : hs.length = m) (hlb : bs.length = T.length) : ChainOk T m (p + 1) (enterS T m p hs bs).1 (enterS T m p hs bs).2 := by
  unfold enterS
  by_cases h3 : p + 3 ≤ T.length
  · rw [if_pos h3]
    have hh := (hashN_eq T m p hT hm).2
    refine ⟨fun k hk => ?_, fun q hq hq3 => ?_, fun _ _ => ?_⟩
    · show (hs.set _ _)[k]?.getD 0 = -1 ∨ _
      by_cases e : hashN T m p = k
      · subst e
        rw [getD_set_eq _ _ _ (by omega)]
        exact .inr ⟨by omega, by omega, by omega⟩
      · rw [getD_set_ne _ _ _ _ e]
        rcases h.head k hk with h1 | ⟨h1, h2, h4⟩
        · exact .inl h1
        · exact .inr ⟨h1, by omega, h4⟩
    · show (bs.set _ _)[q]?.getD 0 = -1 ∨ _
      by_cases e : p = q
      · subst e
        rw [getD_set_eq _ _ _ (by omega)]
        rcases h.head _ hh with h1 | ⟨h1, h2, h4⟩
        · exact .inl h1
        · exact .inr ⟨h1, h2⟩
      · rw [getD_set_ne _ _ _ _ e]
        exact h.next q (by omega) hq3
    · show (hs.set _ _)[_]?.getD 0 = _
      rw [Nat.add_sub_cancel, getD_set_eq _ _ _ (by omega)]
      omega
  · rw [if_neg h3]
    refine ⟨fun k hk => ?_, fun q hq hq3 => ?_, fun _ h5 => by omega⟩
    · rcases h.head k hk with h1 | ⟨h1, h2, h4⟩
      · exact .inl h1
      · exact .inr ⟨h1, by show hs[k]?.getD 0 < _; omega, h4⟩
    · by_cases e : p = q
      · omega
      · exact h.next q (by omega) hq3
set_option maxRecDepth 100000 in
set_option maxHeartbeats 400000 in
theorem chain_any (F p : Nat) (w : World) : Calls Tryd.prog 67 #[.pointer (some ⟨F, 0, none⟩), .int .i64 (p : Int)] w fun e w' =>
    e = .returned (.func (.func 78) #[] #[.pointer (some ⟨w.heap.size, 0, none⟩), .pointer (some ⟨w.heap.size + 1, 0, none⟩)]) ∧ w' = (w.alloc (.cells #[.pointer (some ⟨F, 0, none⟩)] 48)).alloc (.cells #[.int .i64 (p : Int)] 3) := by
  go_enter Tryd.func67, Tryd.ntmps67
  go_wp2
  go_ret
  exact ⟨by simp, rfl⟩

/-- What may come next: a place ahead, not too far, of those that have been entered; the first one is the chain's head. -/
def PlaceOf (T : List Int) (p : Nat) (hd : Int) (pre : List Nat) (x : Nat) : Prop := x < p ∧ p - x ≤ 32768 ∧ x + 3 ≤ T.length ∧ (pre = [] → (x : Int) = hd)

set_option maxRecDepth 100000 in
set_option maxHeartbeats 4000000 in
theorem chain_seq (n : Nat) (D : Nat → Prop) (F H P B1 B2 : Nat) (a : Option Addr) (cap m : Nat) (T hs bs : List Int) (S : Nat → Prop) (hS1 : S B1) (hS2 : S B2) (hSF : ∀ k, (D k ∨ k = F ∨ k = H ∨ k = P) → S k) (p : Nat) (hp : p + 3 ≤ T.length) (hm : 1 ≤ m ∧ m ≤ 32768) (hl : T.length ≤ 2000000) (hT : AreBytes T) (hC : ChainOk T m p hs bs)
    (w : World) (hSw : ∀ k, S k → k < w.heap.size) (hF : FindAt D F H P a cap m T hs bs w) (c1 : w.cell? ⟨B1, 0, none⟩ = some (.pointer (some ⟨F, 0, none⟩))) (c2 : w.cell? ⟨B2, 0, none⟩ = some (.int .i64 (p : Int))) :
    SeqBrk Fence.wide n Tryd.prog 78 #[.pointer (some ⟨B1, 0, none⟩), .pointer (some ⟨B2, 0, none⟩)] (fun x : Nat => #[Value.int .i64 (x : Int)]) (Kept S) (PlaceOf T p (hs[hashN T m p]?.getD 0)) (fun xs => xs = [] → (hs[hashN T m p]?.getD 0 = -1 ∨ 32768 < (p : Int) - hs[hashN T m p]?.getD 0)) w := by
  intro l J Jx W hW hJd hY h0
  have hKW : Kept S w W := Kept.of_below hW hSw
  have d1 := (hKW.cell (p := ⟨B1, 0, none⟩) hS1).trans c1
  have d2 := (hKW.cell (p := ⟨B2, 0, none⟩) hS2).trans c2
  have hFW := hF.kept hKW hSF
  have hh := (hashN_eq T m p hT hm.1).2
  have HN : Hid (∀ k, Calls Tryd.prog 50 #[.pointer (some ⟨F, 0, none⟩), .int .i64 (p : Int)] (W.drewN k) fun e w' => e = .returned (.int .i64 (hashN T m p : Int)) ∧ ∃ n, w' = (W.drewN k).drewN n) := fun k => hash_any D F H P a cap m T hs bs (W.drewN k) (hFW.drewN k) p hp hm hl hT
  obtain ⟨h, HH⟩ : ∃ h, Hid (hashN T m p = h) := ⟨_, rfl⟩
  rw [HH.out] at hh HN hY ⊢
  have hH := hC.head h hh
  obtain ⟨hd, HD⟩ : ∃ hd, Hid (hs[h]?.getD 0 = hd) := ⟨_, rfl⟩
  have f1 := hFW.fin.cell (i := 1) rfl
  have ch := row_int_cell hFW.heads h (by rw [hFW.lh]; exact hh)
  rw [HD.out] at hH ch hY ⊢
  have l1 : (h : Int) < (m : Int) := by omega
  clear hW hKW c1 c2 hF
  refine callsIn_of_wp Tryd.func78 rfl trivial ?_ rfl
  simp only [Tryd.ntmps78, List.size_toArray, List.length_cons, List.length_nil, Nat.reduceAdd, Nat.reduceSub, Array.replicate_succ, Array.replicate_zero, List.push_toArray, List.append_toArray, List.nil_append, List.cons_append]
  have HJ : Hid (J [] W) := h0
  have HY : Hid _ := hY
  have HFW : Hid _ := hFW
  have HC : Hid _ := hC
  have HHD : Hid _ := hH
  clear h0 hY hFW hC hH
  gi_wp2_with fail
  refine wpIn_region_quiet_lit rfl (by kernel_rfl) (by kernel_rfl) ?_
  repeat (gi_big_quiet_step (fail))
  refine BigFrame.wpQuietIn_want (by intro w _ f hf; trivial) rfl ?_
  intro K0 hK0
  gi_big_quiet_op
  apply Exists.intro
  refine ⟨fun _ => ?_, ?_⟩
  · exact ⟨(fun h => by cases h), CallsIn.quiet_of (callsIn_wide.2 (HN.out _))⟩
  go_big_quiet_on
  repeat (gi_big_quiet_step (fail))
  refine wpQuietIn_nil ?_
  rintro _ ⟨nq, rfl⟩
  have HJ2 : Hid (J [] (W.drewN nq)) := hJd [] W nq HJ.out
  have HK0 : Hid (Kept S W (W.drewN nq)) := kept_drewN S W nq
  gi_wp2
  gi_loopw [4, 14] (fun v4 v14 wr => ∃ (k : Nat) (pre : List Nat) (z : Int), v14 = .int .i64 (k : Int) ∧ v4 = .int .i64 z ∧ k ≤ 128 ∧ pre.length = k ∧ Hid (z = -1 ∨ (0 ≤ z ∧ z < (p : Int) ∧ z + 3 ≤ (T.length : Int))) ∧ Hid (pre = [] → z = hd) ∧ Hid (J pre wr) ∧ Hid (Kept S W wr)) (fun _ v14 _ => 128 - (intOf v14).toNat)
  case atStart => exact ⟨0, [], hd, rfl, rfl, by omega, rfl, HHD, (fun _ => rfl), HJ2, HK0⟩
  case round =>
    obtain ⟨k, pre, z, rfl, rfl, hk, hpl, HZ, HP, HJr, HKr⟩ := hrel
    have hwk : IntKind.i64.wrap ((k : Int) + 1) = (k : Int) + 1 := by simp [IntKind.wrap, IntKind.bits, IntKind.signed]; omega
    by_cases hlt : k < 128
    rotate_left
    · have t1 : ¬ ((k : Int) < 128) := by omega
      gi_wp2
      go_end0
      exact ⟨⟨_, rfl⟩, .inl ⟨pre, (fun e => by rw [e] at hpl; simp at hpl; omega), HJr.out⟩⟩
    · have t1 : (k : Int) < 128 := by omega
      have g2 := (HKr.out.cell (p := ⟨B2, 0, none⟩) hS2).trans d2
      by_cases hz : z = -1
      · have t2 : (z == -1) = true := by simpa using hz
        have HE : Hid (pre = [] → hd = -1 ∨ 32768 < (p : Int) - hd) := fun e => .inl ((HP.out e).symm.trans hz)
        gi_wp2
        refine ⟨(fun f h => by cases h), ?_⟩
        gi_wp2
        refine bodyPost_ret (results_none rfl _ _ _) rfl ?_
        exact ⟨⟨_, rfl⟩, .inl ⟨pre, HE.out, HJr.out⟩⟩
      · have t2 : (z == -1) = false := by simpa using hz
        obtain ⟨x, rfl⟩ : ∃ x : Nat, z = (x : Int) := ⟨z.toNat, by have := HZ.out; omega⟩
        have HX : Hid (x < p ∧ x + 3 ≤ T.length) := by have := HZ.out; show _ ∧ _; omega
        have hws : IntKind.i64.wrap ((p : Int) - (x : Int)) = (p : Int) - (x : Int) := by have := HX.out; simp [IntKind.wrap, IntKind.bits, IntKind.signed]; omega
        by_cases hfar : 32768 < (p : Int) - (x : Int)
        · have HE : Hid (pre = [] → hd = -1 ∨ 32768 < (p : Int) - hd) := fun e => .inr (by rw [← HP.out e]; exact hfar)
          gi_wp2
          refine ⟨(fun f h => by cases h), ?_⟩
          gi_wp2
          refine bodyPost_ret (results_none rfl _ _ _) rfl ?_
          exact ⟨⟨_, rfl⟩, .inl ⟨pre, HE.out, HJr.out⟩⟩
        · have hR : PlaceOf T p hd pre x := ⟨HX.out.1, by have := HX.out; omega, HX.out.2, fun e => HP.out e⟩
          obtain ⟨fn, tmps, assign, body, hy, hRd⟩ := HY.out pre x wr HJr.out hR
          clear hR
          gi_wp2
          refine ⟨(fun h => by cases h), hRd.mono ?_⟩
          rintro e w9 (⟨rfl, hJ9, hk9⟩ | ⟨rfl, hx9⟩)
          · have HK9 : Hid (Kept S W w9) := HKr.out.trans hk9
            have hF9 := HFW.out.kept HK9.out hSF
            have e1 := (HK9.out.cell (p := ⟨B1, 0, none⟩) hS1).trans d1
            have e2 := hF9.fin.cell (i := 2) rfl
            have e3 := row_int_cell hF9.before x (by rw [hF9.lb]; have := HX.out; omega)
            have HB : Hid (bs[x]?.getD 0 = -1 ∨ (0 ≤ bs[x]?.getD 0 ∧ bs[x]?.getD 0 < (p : Int) ∧ bs[x]?.getD 0 + 3 ≤ (T.length : Int))) := by
              have h1 := HX.out
              rcases HC.out.next x h1.1 h1.2 with h2 | h2
              · exact .inl h2
              · exact .inr ⟨h2.1, by omega, by omega⟩
            have l3 : (x : Int) < (T.length : Int) := by have := HX.out; omega
            obtain ⟨z', hz'⟩ : ∃ z', bs[x]?.getD 0 = z' := ⟨_, rfl⟩
            rw [hz'] at e3 HB
            have HJ9 : Hid _ := hJ9
            clear hRd hy hk9 hJ9 hF9 HJr HKr g2 t2 hz' hz hfar HX HZ
            gi_wp2
            exact ⟨⟨k + 1, pre ++ [x], z', by go_num, rfl, by omega, by simp [hpl], HB, (fun e => by simp at e), HJ9, HK9⟩, by simp [intOf]; omega⟩
          · clear hRd hy
            gi_wp2
            refine bodyPost_ret (results_none rfl _ _ _) rfl ?_
            exact ⟨⟨_, rfl⟩, .inr hx9⟩
end Go.Proofs.YtinbilbgipfemaaDoor
