/- bySize. -/
import Derived.Test.YtfbhonjndepjbaaDoorWby
import Derived.Test.YtfbhonjndepjbaaDoorOrn
namespace Go.Proofs.YtfbhonjndepjbaaDoor
open Go.RowKit

set_option maxRecDepth 100000 in
set_option maxHeartbeats 1000000 in
theorem bySize_raw (an bn : Bool) (ah al bh bl : Nat) (ae be : Int) (w : World) : Calls Tryd.prog 89 #[wv an ah al ae, wv bn bh bl be] w fun r w' =>
    r = .returned (.int .i64 (if cN ah bh ≠ 0 then cN ah bh else cN al bl)) ∧ Below w.heap.size w w' := by
  have k1 := cmpU ah bh
  have k2 := cmpU al bl
  have k3 := or2 (cN ah bh) (cN al bl)
  unfold wv
  generalize cN ah bh = x at *
  generalize cN al bl = y at *
  generalize (if x ≠ 0 then x else y) = z at *
  go_enter Tryd.func89, Tryd.ntmps89
  go_wp2_with fail
  have hA := (Row.new w 59 #[.bool an, .int .u64 (ah : Int), .int .u64 (al : Int), .int .i64 ae]).alloc (.cells #[.bool bn, .int .u64 (bh : Int), .int .u64 (bl : Int), .int .i64 be] 59)
  have hZ := Row.new1 w (.cells #[.bool an, .int .u64 (ah : Int), .int .u64 (al : Int), .int .i64 ae] 59) 59 #[.bool bn, .int .u64 (bh : Int), .int .u64 (bl : Int), .int .i64 be]
  have hB := ((Below.refl _ w).alloc (Nat.le_refl _) (.cells #[.bool an, .int .u64 (ah : Int), .int .u64 (al : Int), .int .i64 ae] 59)).alloc (by simp) (.cells #[.bool bn, .int .u64 (bh : Int), .int .u64 (bl : Int), .int .i64 be] 59)
  generalize (w.alloc (.cells #[.bool an, .int .u64 (ah : Int), .int .u64 (al : Int), .int .i64 ae] 59)).alloc (.cells #[.bool bn, .int .u64 (bh : Int), .int .u64 (bl : Int), .int .i64 be] 59) = W at *
  obtain ⟨a0, a1, a2, a3⟩ := hA.four
  obtain ⟨b0, b1, b2, b3⟩ := hZ.four
  have HD : W.drew = W.drew := rfl
  have hlt : w.heap.size < W.heap.size := hA.lt
  refine wp_region_M (fun wx : World => wx = W.drew) (fun j => decide (j < 10)) 13 rfl (by kernel_rfl) ?_
  refine wpM_held 0 (v := ?_) rfl (by kernel_rfl) (by kernel_rfl) rfl (fun _ _ _ h => h) rfl (by rintro wx rfl; go_simp <;> rfl) HD ?_
  refine wpM_held 1 (v := .int .u64 (ah : Int)) rfl (by kernel_rfl) (by kernel_rfl) rfl (fun _ _ _ h => h) rfl (by rintro wx rfl; go_simp <;> rfl) HD ?_
  refine wpM_held 2 (v := ?_) rfl (by kernel_rfl) (by kernel_rfl) rfl (fun _ _ _ h => h) rfl (by rintro wx rfl; go_simp <;> rfl) HD ?_
  refine wpM_held 3 (v := .int .u64 (bh : Int)) rfl (by kernel_rfl) (by kernel_rfl) rfl (fun _ _ _ h => h) rfl (by rintro wx rfl; go_simp <;> rfl) HD ?_
  refine wpM_held 5 (v := ?_) rfl (by kernel_rfl) (by kernel_rfl) rfl (fun _ _ _ h => h) rfl (by rintro wx rfl; go_simp <;> rfl) HD ?_
  refine wpM_held 6 (v := .int .u64 (al : Int)) rfl (by kernel_rfl) (by kernel_rfl) rfl (fun _ _ _ h => h) rfl (by rintro wx rfl; go_simp <;> rfl) HD ?_
  refine wpM_held 7 (v := ?_) rfl (by kernel_rfl) (by kernel_rfl) rfl (fun _ _ _ h => h) rfl (by rintro wx rfl; go_simp <;> rfl) HD ?_
  refine wpM_held 8 (v := .int .u64 (bl : Int)) rfl (by kernel_rfl) (by kernel_rfl) rfl (fun _ _ _ h => h) rfl (by rintro wx rfl; go_simp <;> rfl) HD ?_
  refine wpM_one 4 rfl (by kernel_rfl) rfl ?_
  go_wp2_with fail
  refine (k1 _).mono ?_
  rintro _ w1 ⟨rfl, h1⟩
  rw [h1]
  clear h1 w1
  go_wp2_with fail
  refine ⟨fun _ => rfl, ?_⟩
  refine wpM_one 9 rfl (by kernel_rfl) rfl ?_
  go_wp2_with fail
  refine (k2 _).mono ?_
  rintro _ w1 ⟨rfl, h1⟩
  rw [h1]
  clear h1 w1
  go_wp2_with fail
  refine ⟨fun _ => rfl, ?_⟩
  refine wpM_one 10 rfl (by kernel_rfl) rfl ?_
  go_wp2_with fail
  refine ⟨(fun h => by simp at h), ?_⟩
  refine wpM_one 11 rfl (by kernel_rfl) rfl ?_
  go_wp2_with fail
  refine (k3 W.heap.size _ (Row.new W.drew 3 _)).mono ?_
  rintro _ w1 ⟨rfl, h1⟩
  rw [h1]
  clear h1 w1
  go_wp2_with fail
  refine ⟨(fun h => by simp at h), ?_⟩
  refine wpM_one 12 rfl (by kernel_rfl) rfl ?_
  go_wp2_with fail
  refine ⟨(fun h => by simp at h), ?_⟩
  refine wpM_done (by kernel_rfl) ?_
  go_wp2
  go_ret
  exact ⟨rfl, (hB.trans (Below.refl _ W).drew).alloc (by show _ ≤ W.heap.size; omega) _⟩
theorem bySize_any (a b : Wd) (w : World) : Calls Tryd.prog 89 #[a.val, b.val] w fun r w' => r = .returned (.int .i64 (cN a.n b.n)) ∧ Below w.heap.size w w' := by
  refine (bySize_raw a.neg b.neg _ _ _ _ a.e b.e w).mono ?_
  rintro r w' ⟨rfl, hB⟩
  refine ⟨?_, hB⟩
  congr 2
  unfold cN
  repeat' split
  all_goals first | omega | contradiction | skip
end Go.Proofs.YtfbhonjndepjbaaDoor
