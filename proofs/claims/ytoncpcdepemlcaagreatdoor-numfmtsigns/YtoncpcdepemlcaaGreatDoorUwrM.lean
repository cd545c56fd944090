import Derived.Test.YtoncpcdepemlcaaGreatDoorMem
import Derived.Test.YtoncpcdepemlcaaGreatDoorDpuM
import Derived.Test.YtoncpcdepemlcaaGreatDoorUfpM
import Derived.Test.YtoncpcdepemlcaaGreatDoorRows
/- utf: the document's char and Write. -/
namespace Go.Proofs.YtoncpcdepemlcaaGreatDoor
open Go.RowKit

end Go.Proofs.YtoncpcdepemlcaaGreatDoor
/- utf: the document's Write. -/
namespace Go.Proofs.YtoncpcdepemlcaaGreatDoor
open Go.RowKit

end Go.Proofs.YtoncpcdepemlcaaGreatDoor
