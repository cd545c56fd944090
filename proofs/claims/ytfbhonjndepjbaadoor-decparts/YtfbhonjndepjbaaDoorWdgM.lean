import Derived.Test.YtfbhonjndepjbaaDoorWfu
import Derived.Test.YtfbhonjndepjbaaDoorPdkM
import Derived.Test.YtfbhonjndepjbaaDoorWddM
import Derived.Test.YtfbhonjndepjbaaDoorRgoM
import Derived.Test.YtfbhonjndepjbaaDoorWpp
/- The digits of any number, one by one. -/
namespace Go.Proofs.YtfbhonjndepjbaaDoor
open Go.RowKit Go.Shelf

attribute [local go_sem] Oper.semAt_some

end Go.Proofs.YtfbhonjndepjbaaDoor
/- Print of any number. -/
namespace Go.Proofs.YtfbhonjndepjbaaDoor
open Go.RowKit Go.Shelf

attribute [local go_sem] Oper.semAt_some

end Go.Proofs.YtfbhonjndepjbaaDoor
/- Print of any number below nought. -/
namespace Go.Proofs.YtfbhonjndepjbaaDoor
open Go.RowKit Go.Shelf

attribute [local go_sem] Oper.semAt_some

end Go.Proofs.YtfbhonjndepjbaaDoor
