/- The first option that bytes say: the contract of the program's. -/
import Derived.Test.YtmkngolkflihlaaOpt2
import Derived.StillTailTactics
import Derived.BigRegion
import Derived.Handy
namespace Go.Proofs.Ytmkngolkflihlaa.Opt
open Go.ChangeShapes Go.WideShapes Go.ChangeAt Go.RowKit
set_option linter.unusedVariables false

end Go.Proofs.Ytmkngolkflihlaa.Opt
