/- What the laws on package ikey share: the example of the document. -/
import Derived.Test.YtobjiamdljjkjaaGreatKright
import Derived.Lib.SlBytesConst
namespace Go.Proofs.YtobjiamdljjkjaaGreat.Ik
set_option linter.unusedVariables false
set_option linter.unusedSimpArgs false
open Go.RowKit Lift

end Go.Proofs.YtobjiamdljjkjaaGreat.Ik
