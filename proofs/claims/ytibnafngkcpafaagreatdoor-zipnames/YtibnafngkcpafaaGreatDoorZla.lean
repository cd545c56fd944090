/- The law ZipNames, walked. -/
import Derived.Test.YtibnafngkcpafaaGreatDoorZam
import Derived.Test.YtibnafngkcpafaaGreatDoorZrp
namespace Go.Proofs.YtibnafngkcpafaaGreatDoor
open Go.RowKit Go.Shelf

attribute [local go_sem] Oper.semAt_some

set_option maxRecDepth 100000 in
set_option maxHeartbeats 2000000 in
theorem law_any (s : ByteArray) (mx : Int) (w : World) (hs : s.size ≤ maxLen) (h0 : 0 < w.heap.size) (hm : w.cell? ⟨0, 0, none⟩ = some (.int .i64 mx)) :
    Calls Tryz.prog 3 #[.string s] w fun e w' => e = .returned (.bool true) ∧ Below w.heap.size w w' := by
  obtain ⟨r, hr⟩ : ∃ r, rightS s = r := ⟨_, rfl⟩
  have h1 := right_any s mx w hs hm
  have h2 := fun w' => refRight_any s w' hs
  rw [← right_same] at h2
  rw [hr] at h1 h2
  have H1 : Hid _ := h1
  have H2 : Hid _ := h2
  clear h1 h2
  go_enter Tryz.func3, Tryz.ntmps3
  go_wp2_with fail
  refine Calls.mono H1.out ?_
  clear H1
  rintro e w1 ⟨rfl, hb1⟩
  go_wp2_with fail
  refine Calls.mono (H2.out w1) ?_
  clear H2
  rintro e w2 ⟨rfl, hb2⟩
  have hb12 : Below w.heap.size w w2 := hb1.trans (hb2.mono hb1.size)
  have hm2 := (hb12.cell (p := ⟨0, 0, none⟩) h0).trans hm
  have hA := alive_any mx w2 (by have := hb12.size; omega) hm2
  have HA : Hid _ := hA
  clear hA hb1 hb2
  go_wp2_with fail
  refine Calls.mono HA.out ?_
  clear HA
  rintro e w3 ⟨rfl, hb3⟩
  have HF : Hid (Below w.heap.size w w3) := hb12.trans (hb3.mono hb12.size)
  clear hb3 hb12 hm2
  go_wp2_with fail
  go_ret
  exact ⟨rfl, HF.out⟩
end Go.Proofs.YtibnafngkcpafaaGreatDoor
