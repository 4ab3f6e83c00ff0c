/- The model's chapter 3, fourth part: SwapLandings, RaiseThrow, ShiftThrows, DualPattern, RepeatPattern answer as the plain mathematics says. No conditions. -/
import Derived.Test.YtomhhognfpfacaaSpecFiv
namespace Go.Proofs.Ytomhhognfpfacaa
open Go.RowKit
set_option linter.unusedSimpArgs false
set_option linter.unusedVariables false

end Go.Proofs.Ytomhhognfpfacaa
