/-
  PROVED: over an alarm whose labels lie in memory spec.AlarmOk and impl.AlarmOk, SameAlarm, Over and Touch answer alike, each as a plain function says; nothing that was there is changed.
-/
import Derived.Test.YtbccaioahifloaaQAlm
import Derived.Test.YtbccaioahifloaaQLabO
namespace Go.Proofs.Ytbccaioahifloaa.AlmS
open Go.RowKit
open Go.Proofs.Ytbccaioahifloaa.Labs Go.Proofs.Ytbccaioahifloaa.LabS Go.Proofs.Ytbccaioahifloaa.Alm Go.Proofs.Ytbccaioahifloaa.Over Go.Proofs.Ytbccaioahifloaa.Blk
open Go.Proofs.Ytbccaioahifloaa.LabO (setB)
open Go.Proofs.Ytbccaioahifloaa.Names (inB inB_true inB_false plainB)
open Go.Proofs.Ytbccaioahifloaa.StrB (retB)
set_option linter.unusedVariables false

end Go.Proofs.Ytbccaioahifloaa.AlmS
