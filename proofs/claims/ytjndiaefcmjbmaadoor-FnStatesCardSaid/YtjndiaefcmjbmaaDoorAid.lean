/- The laws' helpers a2At (a number that depends on a byte) and a2Sum (the sum of a list of throws). Conditions: at most 3000 bytes; a list of throws. -/
import Derived.Test.YtjndiaefcmjbmaaDoorSrc
import Derived.Test.YtjndiaefcmjbmaaDoorPat
namespace Go.Proofs.YtjndiaefcmjbmaaDoor
open Go.RowKit
set_option linter.unusedSimpArgs false
set_option linter.unusedVariables false

end Go.Proofs.YtjndiaefcmjbmaaDoor
