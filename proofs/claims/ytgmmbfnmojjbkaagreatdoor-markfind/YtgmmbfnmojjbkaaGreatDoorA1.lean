import Derived.Test.YtgmmbfnmojjbkaaGreatDoorAB
import Derived.Test.YtgmmbfnmojjbkaaGreatDoorR1
import Derived.Deep.Upon
import Derived.Deep.AppendLies
namespace Go.Proofs.YtgmmbfnmojjbkaaGreatDoor
open Go.RowKit
set_option linter.unusedVariables false
set_option linter.unusedSimpArgs false

section
variable {P : Program} (w : World)

end

end Go.Proofs.YtgmmbfnmojjbkaaGreatDoor
