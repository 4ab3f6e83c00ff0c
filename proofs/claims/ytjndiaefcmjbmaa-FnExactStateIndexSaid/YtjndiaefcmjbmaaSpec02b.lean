/- The model's chapter 2, second part: sums, props, remainders, throws at beats and the beats from which they land. No conditions but that a list is in bounds. -/
import Derived.Test.YtjndiaefcmjbmaaSpec02
namespace Go.Proofs.Ytjndiaefcmjbmaa
open Go.RowKit
set_option linter.unusedSimpArgs false
set_option linter.unusedVariables false

end Go.Proofs.Ytjndiaefcmjbmaa
