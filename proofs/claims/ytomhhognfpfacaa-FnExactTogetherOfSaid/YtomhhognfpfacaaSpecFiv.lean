/- The model's chapter 3, third part: l03Canon, l03Alike, and the functions of chapter 3 answer as the plain mathematics says. No conditions. -/
import Derived.Test.YtomhhognfpfacaaSpecFou
namespace Go.Proofs.Ytomhhognfpfacaa
open Go.RowKit
set_option linter.unusedSimpArgs false
set_option linter.unusedVariables false

end Go.Proofs.Ytomhhognfpfacaa
