/-
  PROVED: over two lists of alarms in memory spec.l4Same, laws.sameList and slices.EqualFunc answer whether they are the same; nothing that was there is changed.
-/
import Derived.Test.YtcopckbpflmmeabLst
namespace Go.Proofs.Ytcopckbpflmmeab.ChnS
open Go.RowKit
open Go.Proofs.Ytcopckbpflmmeab.Labs Go.Proofs.Ytcopckbpflmmeab.LabS Go.Proofs.Ytcopckbpflmmeab.Alms Go.Proofs.Ytcopckbpflmmeab.AlmM Go.Proofs.Ytcopckbpflmmeab.Over Go.Proofs.Ytcopckbpflmmeab.Blk Go.Proofs.Ytcopckbpflmmeab.App Go.Proofs.Ytcopckbpflmmeab.Rws
open Go.Proofs.Ytcopckbpflmmeab.AlmS Go.Proofs.Ytcopckbpflmmeab.ChnI
open Go.Proofs.Ytcopckbpflmmeab.StrB (retB)
open Go.Proofs.Ytcopckbpflmmeab.Alm (at_par)
set_option linter.unusedVariables false
end Go.Proofs.Ytcopckbpflmmeab.ChnS
namespace Go.Proofs.Ytcopckbpflmmeab.ChnT
open Go.RowKit
open Go.Proofs.Ytcopckbpflmmeab.Labs Go.Proofs.Ytcopckbpflmmeab.LabS Go.Proofs.Ytcopckbpflmmeab.Alms Go.Proofs.Ytcopckbpflmmeab.AlmM Go.Proofs.Ytcopckbpflmmeab.Over Go.Proofs.Ytcopckbpflmmeab.Blk Go.Proofs.Ytcopckbpflmmeab.App Go.Proofs.Ytcopckbpflmmeab.Rws
open Go.Proofs.Ytcopckbpflmmeab.AlmS Go.Proofs.Ytcopckbpflmmeab.ChnI
open Go.Proofs.Ytcopckbpflmmeab.StrB (retB)
open Go.Proofs.Ytcopckbpflmmeab.Alm (at_par)
set_option linter.unusedVariables false
end Go.Proofs.Ytcopckbpflmmeab.ChnT
