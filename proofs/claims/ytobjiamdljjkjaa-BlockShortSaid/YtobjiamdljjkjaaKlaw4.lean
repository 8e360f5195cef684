/- What the laws on package ikey share: the example of the document. -/
import Derived.Test.YtobjiamdljjkjaaKright
import Derived.Lib.SlBytesConst
namespace Go.Proofs.Ytobjiamdljjkjaa.Ik
set_option linter.unusedVariables false
set_option linter.unusedSimpArgs false
open Go.RowKit Lift

end Go.Proofs.Ytobjiamdljjkjaa.Ik
