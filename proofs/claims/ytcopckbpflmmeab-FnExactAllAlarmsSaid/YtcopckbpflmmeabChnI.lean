/-
  PROVED: over a chain and labels in memory impl.InChain answers as a plain function on lists says; nothing that was there is changed.
-/
import Derived.Test.YtcopckbpflmmeabLop
import Derived.Test.YtcopckbpflmmeabLst
namespace Go.Proofs.Ytcopckbpflmmeab.ChnI
open Go.RowKit
open Go.Proofs.Ytcopckbpflmmeab.Labs Go.Proofs.Ytcopckbpflmmeab.LabS Go.Proofs.Ytcopckbpflmmeab.Alms Go.Proofs.Ytcopckbpflmmeab.Over Go.Proofs.Ytcopckbpflmmeab.Blk Go.Proofs.Ytcopckbpflmmeab.Rnd Go.Proofs.Ytcopckbpflmmeab.Plc Go.Proofs.Ytcopckbpflmmeab.Lop Go.Proofs.Ytcopckbpflmmeab.App Go.Proofs.Ytcopckbpflmmeab.Rws
set_option linter.unusedVariables false
attribute [local go_sem] Oper.semAt_some

end Go.Proofs.Ytcopckbpflmmeab.ChnI
