/- StateOf, the program's. No conditions. -/
import Derived.Test.YtjndiaefcmjbmaaStH
namespace Go.Proofs.Ytjndiaefcmjbmaa
open Go.RowKit
set_option linter.unusedSimpArgs false
set_option linter.unusedVariables false

end Go.Proofs.Ytjndiaefcmjbmaa
