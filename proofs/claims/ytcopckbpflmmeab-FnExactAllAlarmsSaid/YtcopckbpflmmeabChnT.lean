/-
  PROVED: over two chains in memory spec.SameChain and impl.SameChain answer alike, as a plain function on lists says; spec.l4All and spec.l6Copy give the same alarms in memory of their own; nothing that was there is changed.
-/
import Derived.Test.YtcopckbpflmmeabChnS
import Derived.Test.YtcopckbpflmmeabLsA
import Derived.Test.YtcopckbpflmmeabLsS
import Derived.Test.YtcopckbpflmmeabChnD
namespace Go.Proofs.Ytcopckbpflmmeab.ChnT
open Go.RowKit
open Go.Proofs.Ytcopckbpflmmeab.Labs Go.Proofs.Ytcopckbpflmmeab.LabS Go.Proofs.Ytcopckbpflmmeab.Alms Go.Proofs.Ytcopckbpflmmeab.AlmS Go.Proofs.Ytcopckbpflmmeab.AlmM Go.Proofs.Ytcopckbpflmmeab.Over Go.Proofs.Ytcopckbpflmmeab.Blk Go.Proofs.Ytcopckbpflmmeab.App Go.Proofs.Ytcopckbpflmmeab.Rws Go.Proofs.Ytcopckbpflmmeab.ChnI Go.Proofs.Ytcopckbpflmmeab.ChnC Go.Proofs.Ytcopckbpflmmeab.ChnP Go.Proofs.Ytcopckbpflmmeab.ChnD Go.Proofs.Ytcopckbpflmmeab.ChnS
open Go.Proofs.Ytcopckbpflmmeab.StrB (retB)
open Go.Proofs.Ytcopckbpflmmeab.Alm (at_par)
set_option linter.unusedVariables false

/-- whether two chains are the same -/
def sameCB (f : Int) (P : List PAl) (f' : Int) (Q : List PAl) : Bool := decide (f = f') && sameLB P Q
theorem sameC_y {f f' : Int} {P Q : List PAl} (h : f = f') : sameCB f P f' Q = sameLB P Q := by simp [sameCB, h]
theorem sameC_n {f f' : Int} {P Q : List PAl} (h : f ≠ f') : sameCB f P f' Q = false := by simp [sameCB, h]
end Go.Proofs.Ytcopckbpflmmeab.ChnT
