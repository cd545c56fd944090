import Derived.Test.YtnhflnpjepiceaaGreatDoorPqzM
import Derived.Test.YtnhflnpjepiceaaGreatDoorWdgM
import Derived.Deep.CutBlock
import Derived.Deep.DeepCutAuto
/- The document's Print. -/
namespace Go.Proofs.YtnhflnpjepiceaaGreatDoor
open Go.RowKit

end Go.Proofs.YtnhflnpjepiceaaGreatDoor
