/-
  PROVED: spec.l4All gives the same alarms in memory of its own; nothing that was there is changed.
-/
import Derived.Test.YtcopckbpflmmeabQLst
set_option linter.unusedVariables false
namespace Go.Proofs.Ytcopckbpflmmeab.ChnT
open Go.RowKit
open Labs LabS Alms AlmM Over Blk App Rws
open AlmS ChnI ChnC ChnP
open StrB (retB)
open Alm (at_par)
end Go.Proofs.Ytcopckbpflmmeab.ChnT
