import Derived.Test.YtnhflnpjepiceaaGreatDoorMem
import Derived.Test.YtnhflnpjepiceaaGreatDoorAppM
import Derived.Test.YtnhflnpjepiceaaGreatDoorUfpM
import Derived.Test.YtnhflnpjepiceaaGreatDoorRows
/- utf: the document's char and Write. -/
namespace Go.Proofs.YtnhflnpjepiceaaGreatDoor
open Go.RowKit

end Go.Proofs.YtnhflnpjepiceaaGreatDoor
/- utf: the document's Write. -/
namespace Go.Proofs.YtnhflnpjepiceaaGreatDoor
open Go.RowKit

end Go.Proofs.YtnhflnpjepiceaaGreatDoor
