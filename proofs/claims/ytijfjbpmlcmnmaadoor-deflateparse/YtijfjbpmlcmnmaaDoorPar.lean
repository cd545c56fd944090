/- Parse of the program: items that tell the bytes. -/
import Derived.Test.YtijfjbpmlcmnmaaDoorCol
namespace Go.Proofs.YtijfjbpmlcmnmaaDoor
open Go.RowKit

theorem repC_map (m : Nat) (v : Int) : repC m m v = (List.replicate m v).map (Value.int .i64) := by
  rw [repC, Nat.sub_self, List.replicate_zero, List.append_nil, List.map_replicate]
theorem repC_zero (n : Nat) (v : Int) : repC 0 n v = (List.replicate n (0 : Int)).map (Value.int .i64) := by
  rw [repC, List.replicate_zero, List.nil_append, Nat.sub_zero, List.map_replicate]
theorem chain_start (T : List Int) (m : Nat) : ChainOk T m 0 (List.replicate m (-1)) (List.replicate T.length 0) := by
  refine ⟨fun k hk => .inl ?_, fun q h => by omega, fun h => by omega⟩
  rw [List.getElem?_replicate, if_pos hk]
  rfl
theorem OwnIts.mono {B B' : Nat} {W : World} {v : Value} {its : List It} (h : OwnIts B' W v its) (hB : B ≤ B') : OwnIts B W v its := by
  refine ⟨h.1, h.2.1, ?_⟩
  rcases h.2.2 with h0 | ⟨g, cap, cur, hv, hb, rest⟩
  · exact .inl h0
  · exact .inr ⟨g, cap, cur, hv, by omega, rest⟩

set_option maxRecDepth 100000 in
set_option maxHeartbeats 1000000 in
theorem parse_any (a : Option Addr) (cap : Nat) (T : List Int) (w : World) (hI : BytesIn (· < w.heap.size) w (.slice a T.length cap) T) (hT : AreBytes T) (hl : T.length ≤ 2000000) :
    Calls Tryd.prog 10 #[.slice a T.length cap] w fun e w' => ∃ v its, e = .returned v ∧ told its = T.length ∧ GoodIts T T.length its ∧ OwnIts w.heap.size w' v its ∧ Below w.heap.size w w' := by
  obtain ⟨m, hm⟩ : ∃ m, m = min 32768 (T.length + 1) := ⟨_, rfl⟩
  have H1 : Hid (Calls Tryd.prog 17 #[.slice a T.length cap] w fun e w' => ∃ v, e = .returned v ∧ Found w a T.length cap m v w') := newFinder_any a T.length cap m w hl hm
  go_enter Tryd.func10, Tryd.ntmps10
  go_wp2_with fail
  refine H1.out.mono ?_
  clear H1
  rintro e w1 ⟨v1, rfl, F, H, P, rfl, hF0, hH0, hP0, hFH, hFP, hHP, rF, rH, rP, hb1⟩
  have H2 : Hid (Calls Tryd.prog 19 #[.pointer (some ⟨F, 0, none⟩), .int .i64 0, .int .i64 (T.length : Int)] w1 _) := items_any F 0 T.length w1
  go_wp2_with fail
  refine H2.out.mono ?_
  clear H2
  rintro e w2 ⟨rfl, hw2⟩
  have h1F := rF.lt
  have h1H := rH.lt
  have h1P := rP.lt
  have hs2 : w2.heap.size = w1.heap.size + 3 := by rw [hw2]; simp
  have hb2 : Below w1.heap.size w1 w2 := hw2 ▸ (((Below.refl _ w1).alloc (Nat.le_refl _) _).alloc (by simp) _).alloc (by simp; omega) _
  have r0 : Row w2 w1.heap.size 48 #[.pointer (some ⟨F, 0, none⟩)] := hw2 ▸ ((Row.new w1 48 _).alloc _).alloc _
  have r1 : Row w2 (w1.heap.size + 1) 3 #[.int .i64 0] := by
    have := (Row.new (w1.alloc (.cells #[.pointer (some ⟨F, 0, none⟩)] 48)) 3 #[.int .i64 0]).alloc (.cells #[.int .i64 (T.length : Int)] 3)
    rw [World.size_alloc] at this
    rw [hw2]
    exact this
  have r2 : Row w2 (w1.heap.size + 1 + 1) 3 #[.int .i64 (T.length : Int)] := by
    have := Row.new ((w1.alloc (.cells #[.pointer (some ⟨F, 0, none⟩)] 48)).alloc (.cells #[.int .i64 0] 3)) 3 #[.int .i64 (T.length : Int)]
    rw [World.size_alloc, World.size_alloc] at this
    rw [hw2]
    exact this
  clear hw2
  rw [repC_map] at rH
  rw [repC_zero] at rP
  have hb3 : Below w2.heap.size w2 (w2.alloc (.cells #[.slice none 0 0] 28)) := (Below.refl _ w2).alloc (Nat.le_refl _) _
  have hFA : FindAt (· < w.heap.size) F H P a cap m T (List.replicate m (-1)) (List.replicate T.length 0) (w2.alloc (.cells #[.slice none 0 0] 28)) := by
    have hF1 : FindAt (· < w.heap.size) F H P a cap m T (List.replicate m (-1)) (List.replicate T.length 0) w1 :=
      ⟨rF, rH, rP, by simp, by simp, hI.kept (Kept.of_below hb1 (fun _ h => h)), by show ¬ H < _; omega, by show ¬ P < _; omega, hFH, hFP, hHP⟩
    have hws := hb1.size
    refine (hF1.kept (Kept.of_below (S := fun k => k < w1.heap.size) hb2 (fun _ h => h)) ?_).kept (Kept.of_below (S := fun k => k < w1.heap.size) hb3 (fun k (h : k < _) => by omega)) ?_
    · rintro k (h | rfl | rfl | rfl)
      · show k < _; have : k < w.heap.size := h; omega
      · exact h1F
      · exact h1H
      · exact h1P
    · rintro k (h | rfl | rfl | rfl)
      · show k < _; have : k < w.heap.size := h; omega
      · exact h1F
      · exact h1H
      · exact h1P
  have hws := hb1.size
  have hseq := items_seq 7 (· < w.heap.size) F H P (w1.heap.size + 1) (w1.heap.size + 1 + 1) w1.heap.size a cap m T _ _ T.length (Nat.le_refl _) ⟨by omega, by omega⟩ hl hT (chain_start T m) (w2.alloc (.cells #[.slice none 0 0] 28))
    (by
      simp only [World.size_alloc]
      rintro k (h | rfl | rfl | rfl)
      · have : k < w.heap.size := h; omega
      · omega
      · omega
      · omega)
    (by simp only [World.size_alloc]; omega) (by omega) hFA ((r1.alloc _).cell rfl) ((r2.alloc _).cell rfl) ((r0.alloc _).cell rfl)
  have H3 := callsIn_wide.1 (appendSeq_in _ _ _ T T.length hl w2 (by rintro k (rfl | rfl) <;> omega) (by
      rintro k ((h | rfl | rfl | rfl) | rfl | rfl | rfl)
      · have : k < w.heap.size := h; omega
      · omega
      · omega
      · omega
      · omega
      · omega
      · omega) hseq)
  have HC : Hid (Calls Tryd.prog 23 #[.func (.func 32) #[] #[.pointer (some ⟨w1.heap.size + 1, 0, none⟩), .pointer (some ⟨w1.heap.size + 1 + 1, 0, none⟩), .pointer (some ⟨w1.heap.size, 0, none⟩)]] w2 fun e w' => ∃ v its, e = .returned v ∧ told its = T.length ∧ GoodIts T T.length its ∧ OwnIts w2.heap.size w' v its ∧ Kept (fun k => k < w2.heap.size ∧ ¬ (k = H ∨ k = P)) w2 w') := by
    show Calls _ _ _ _ _
    go_enter Tryd.func23, Tryd.ntmps23
    go_wp2_with fail
    refine H3.mono ?_
    rintro e w3 ⟨v, its, rfl, q1, q2, q3, q4⟩
    go_wp2
    go_ret
    exact ⟨v, its, rfl, q1, q2, q3, q4⟩
  clear H3 hseq hFA r0 r1 r2 rF rH rP
  go_wp2_with fail
  refine HC.out.mono ?_
  rintro e w3 ⟨v, its, rfl, q1, q2, q3, q4⟩
  go_wp2
  go_ret
  refine ⟨v, its, rfl, q1, q2, q3.mono (by omega), hb1.trans ((hb2.mono hws).trans ((q4.mono (fun k (h : k < w.heap.size) => ⟨by omega, by rintro (rfl | rfl) <;> omega⟩)).below (fun _ h => h)))⟩
end Go.Proofs.YtijfjbpmlcmnmaaDoor
