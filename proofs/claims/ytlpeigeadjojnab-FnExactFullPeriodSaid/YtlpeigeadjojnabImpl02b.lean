/- The program's chapter 2, second part: PropsOf, at, ThrowAt, LandsFrom answer as the plain mathematics says. No conditions. -/
import Derived.Test.YtlpeigeadjojnabImpl02
namespace Go.Proofs.Ytlpeigeadjojnab
open Go.RowKit
set_option linter.unusedSimpArgs false
set_option linter.unusedVariables false

end Go.Proofs.Ytlpeigeadjojnab
