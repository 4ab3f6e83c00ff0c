/- Multiplex: RotateMulti, the program's. Conditions: beats of at most 10^7 throws. -/
import Derived.Test.YtgjmhihomklooaaRotM
namespace Go.Proofs.Ytgjmhihomklooaa
open Go.RowKit
set_option linter.unusedSimpArgs false
set_option linter.unusedVariables false

end Go.Proofs.Ytgjmhihomklooaa
