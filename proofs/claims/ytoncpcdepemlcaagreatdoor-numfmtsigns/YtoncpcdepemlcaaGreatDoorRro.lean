import Derived.Test.YtoncpcdepemlcaaGreatDoorRrgM
/- The document's Round. -/
namespace Go.Proofs.YtoncpcdepemlcaaGreatDoor
open Go.RowKit

end Go.Proofs.YtoncpcdepemlcaaGreatDoor
