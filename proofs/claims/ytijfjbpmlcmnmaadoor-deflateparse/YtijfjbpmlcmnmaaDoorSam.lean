/- Two rows of the same bytes are the same. -/
import Derived.Test.YtijfjbpmlcmnmaaDoorPut
import Derived.Test.YtijfjbpmlcmnmaaDoorRowk
import Derived.Laws.BytesArg
namespace Go.Proofs.YtijfjbpmlcmnmaaDoor
open Go.RowKit

theorem conv_bytes (S : Nat → Prop) (w : World) (sv : Value) (zs : List Int) (h : BytesIn S w sv zs) : (convert 22 9 sv).run Tryd.prog w = .ok (.string (strOfNums zs)) w := by
  rcases h with ⟨rfl, a, cap, rfl⟩ | ⟨b, off, cap, rfl, _, hc⟩
  · cases a with
    | none =>
      rw [run_convert_bytes_nil w 22 5 Tryd.underlying22 Tryd.underlying5 _ _ 9 Tryd.underlying9]
      rfl
    | some A =>
      rw [run_convert_bytes_string w 22 9 5 _ _ _ Tryd.underlying22 Tryd.underlying5 Tryd.underlying9, run_bytesToString w A 0 cap [] (by simpa using run_loadCells_list (P := Tryd.prog) w A [] (fun j v hj => by simp at hj))]
      rfl
  · exact run_convert_bytes_arg w 22 5 Tryd.underlying22 Tryd.underlying5 b off zs.length cap zs rfl (fun i hi => by rw [hc i hi]; simp [List.getD]) 9 Tryd.underlying9

set_option maxRecDepth 100000 in
set_option maxHeartbeats 400000 in
theorem same_any (S : Nat → Prop) (a1 a2 : Option Addr) (n1 n2 c1 c2 : Nat) (zs : List Int) (w : World) (h1 : BytesIn S w (.slice a1 n1 c1) zs) (h2 : BytesIn S w (.slice a2 n2 c2) zs) :
    Calls Tryd.prog 13 #[.slice a1 n1 c1, .slice a2 n2 c2] w fun e w' => e = .returned (.bool true) ∧ w' = w := by
  have k1 := conv_bytes S w _ zs h1
  have k2 := conv_bytes S w _ zs h2
  clear h1 h2
  go_enter Tryd.func13, Tryd.ntmps13
  go_wp2
  go_ret
  exact ⟨rfl, rfl⟩
end Go.Proofs.YtijfjbpmlcmnmaaDoor
