import Derived.Test.YtoncpcdepemlcaaGreatDoorUtnM
import Derived.Lib.ConvBytes
namespace Go.Proofs.YtoncpcdepemlcaaGreatDoor
open Go.RowKit
end Go.Proofs.YtoncpcdepemlcaaGreatDoor
