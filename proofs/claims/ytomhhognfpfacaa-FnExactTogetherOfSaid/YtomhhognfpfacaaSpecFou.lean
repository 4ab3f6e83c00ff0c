/- The model's chapter 3, second part: l03Root, l03Canon, l03Alike, and RotatePattern, ReversePattern, RootPattern, CanonicalPattern, AlikePatterns, IsSymmetric, RepeatPattern answer as the plain mathematics says. No conditions. -/
import Derived.Test.YtomhhognfpfacaaSpecThr
import Derived.Test.YtomhhognfpfacaaImplSix
import Derived.Deep.RegionHeld3
namespace Go.Proofs.Ytomhhognfpfacaa
open Go.RowKit
set_option linter.unusedSimpArgs false
set_option linter.unusedVariables false

end Go.Proofs.Ytomhhognfpfacaa
