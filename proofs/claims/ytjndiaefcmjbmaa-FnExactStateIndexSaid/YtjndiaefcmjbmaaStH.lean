/- States of patterns, the program's: the state at a moment. No conditions. -/
import Derived.Test.YtjndiaefcmjbmaaStF
namespace Go.Proofs.Ytjndiaefcmjbmaa
open Go.RowKit
set_option linter.unusedSimpArgs false
set_option linter.unusedVariables false

end Go.Proofs.Ytjndiaefcmjbmaa
