/- HighestOf, the model's and the program's. No conditions. -/
import Derived.Test.YtjndiaefcmjbmaaImpl02
namespace Go.Proofs.Ytjndiaefcmjbmaa
open Go.RowKit
set_option linter.unusedSimpArgs false
set_option linter.unusedVariables false

end Go.Proofs.Ytjndiaefcmjbmaa
