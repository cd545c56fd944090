import Derived.Test.YtfbhonjndepjbaaDoorPahM
import Derived.Lib.ItoaMem
import Derived.Lib.AppendIntMem
/- strconv.FormatUint at base 10. -/
namespace Go.Proofs.YtfbhonjndepjbaaDoor
open Go.RowKit Go.Shelf Go.Sort

attribute [local go_sem] Oper.semAt_some

abbrev PTab (w : World) : Prop := Lib.TabIs Tryd.prog w "internal/strconv.uint64pow10" .u64 Lib.pow10Tab
theorem PTab.below {w w' : World} (h : PTab w) (hB : Below w.heap.size w w') : PTab w' := Lib.tabBelow_of_tabIs h w' hB
end Go.Proofs.YtfbhonjndepjbaaDoor
