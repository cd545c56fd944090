import Derived.Test.YtfbhonjndepjbaaDoorDpa
import Derived.Test.YtfbhonjndepjbaaDoorPdkM
/- dec's Parse, whole. -/
namespace Go.Proofs.YtfbhonjndepjbaaDoor
open Go.RowKit Go.Shelf

end Go.Proofs.YtfbhonjndepjbaaDoor
/- Digits that are summed up, one by one: what is told of them is what the whole number is told as (pure). -/
namespace Go.Proofs.YtfbhonjndepjbaaDoor

end Go.Proofs.YtfbhonjndepjbaaDoor
