import Derived.Test.YtoncpcdepemlcaaGreatDoorUtnM
import Derived.Lib.ConvBytes
/- utf: the program's Upper, Lower, Less. -/
namespace Go.Proofs.YtoncpcdepemlcaaGreatDoor
open Go.RowKit

end Go.Proofs.YtoncpcdepemlcaaGreatDoor
