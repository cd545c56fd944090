import Derived.Test.YtoncpcdepemlcaaGreatDoorRrgM
/- The document's Round: where it refuses, and where nothing goes. -/
namespace Go.Proofs.YtoncpcdepemlcaaGreatDoor
open Go.RowKit

end Go.Proofs.YtoncpcdepemlcaaGreatDoor
