/- The model's chapter 3, first part: l00Own, l00Same, l03Rotate, l03Reverse, l03Checked, l03Repeat, l03Root, l03Canon, l03Alike compute rotations, reversals, roots and canonical forms. No conditions but that a list is not empty where it must not be. -/
import Derived.Test.YtomhhognfpfacaaRot
import Derived.Test.YtomhhognfpfacaaSpec02b
import Derived.Deep.RegionWith
namespace Go.Proofs.Ytomhhognfpfacaa
open Go.RowKit
set_option linter.unusedSimpArgs false
set_option linter.unusedVariables false

end Go.Proofs.Ytomhhognfpfacaa
