/- What the laws on package ikey share: the example of the document. -/
import Derived.Test.YtaopbgildkjpcaaKright
import Derived.Lib.SlBytesConst
namespace Go.Proofs.Ytaopbgildkjpcaa.Ik
set_option linter.unusedVariables false
set_option linter.unusedSimpArgs false
open Go.RowKit Lift

end Go.Proofs.Ytaopbgildkjpcaa.Ik
