/-
  Layer 5: the walks as the rows want them.
-/
import Derived.Test.YtblmnbaejfhagaaGreatDoorOrders5
import Derived.Test.YtblmnbaejfhagaaGreatDoorOpen5
import Derived.Test.YtblmnbaejfhagaaGreatDoorSaid5
namespace Go.Proofs.YtblmnbaejfhagaaGreatDoor
open Go.ChangeShapes Go.WideShapes Go.ChangeAt Go.RowKit
set_option linter.unusedVariables false

end Go.Proofs.YtblmnbaejfhagaaGreatDoor
