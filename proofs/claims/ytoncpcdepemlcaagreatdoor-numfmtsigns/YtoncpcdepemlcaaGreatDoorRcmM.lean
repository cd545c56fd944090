import Derived.Test.YtoncpcdepemlcaaGreatDoorRtmM
import Derived.Test.YtoncpcdepemlcaaGreatDoorRtmM
import Derived.Deep.CutBlock
import Derived.Deep.DeepCutAuto
/- The document's Cmp and Sign. -/
namespace Go.Proofs.YtoncpcdepemlcaaGreatDoor
open Go.RowKit

end Go.Proofs.YtoncpcdepemlcaaGreatDoor
/- The document's Sign. -/
namespace Go.Proofs.YtoncpcdepemlcaaGreatDoor
open Go.RowKit

end Go.Proofs.YtoncpcdepemlcaaGreatDoor
