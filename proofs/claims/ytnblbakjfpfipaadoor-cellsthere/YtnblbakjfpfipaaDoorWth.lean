/- CellsThere, walked. -/
import Derived.Test.YtnblbakjfpfipaaDoorWthff
import Derived.Test.YtnblbakjfpfipaaDoorWthft
import Derived.Test.YtnblbakjfpfipaaDoorWthtf
import Derived.Test.YtnblbakjfpfipaaDoorWthtt
namespace Go.Proofs.YtnblbakjfpfipaaDoor
open Go.RowKit

theorem there_any (x : Rf) (dc dr : Int) (hc1 : -9223372036854775808 ≤ dc) (hc2 : dc ≤ 9223372036854775807) (hr1 : -9223372036854775808 ≤ dr) (hr2 : dr ≤ 9223372036854775807) (w : World) (hE : Env w) :
    Calls Tryd.prog 4 #[x.v, .int .i64 dc, .int .i64 dr] w fun e w' => e = .returned (.bool true) ∧ Below w.heap.size w w' := by
  cases h : shiftR x dc dr with
  | none => exact there_none x dc dr hc1 hc2 hr1 hr2 h w hE
  | some y =>
    cases ha : x.ac <;> cases hb : x.ar
    · exact there_ff x y ha hb dc dr hc1 hc2 hr1 hr2 h w hE
    · exact there_ft x y ha hb dc dr hc1 hc2 hr1 hr2 h w hE
    · exact there_tf x y ha hb dc dr hc1 hc2 hr1 hr2 h w hE
    · exact there_tt x y ha hb dc dr hc1 hc2 hr1 hr2 h w hE
end Go.Proofs.YtnblbakjfpfipaaDoor
