/-
  PROVED: over two lists of alarms in memory spec.l4Same, laws.sameList and slices.EqualFunc answer whether they are the same; nothing that was there is changed.
-/
import Derived.Test.YtooninmicfcfoaaGreatQLst
set_option linter.unusedVariables false
namespace Go.Proofs.YtooninmicfcfoaaGreat.ChnS
open Go.RowKit
open Labs LabS Alms AlmM Over Blk App Rws
open AlmS ChnI
open StrB (retB)
open Alm (at_par)
end Go.Proofs.YtooninmicfcfoaaGreat.ChnS
namespace Go.Proofs.YtooninmicfcfoaaGreat.ChnT
open Go.RowKit
open Labs LabS Alms AlmM Over Blk App Rws
open AlmS ChnI
open StrB (retB)
open Alm (at_par)
end Go.Proofs.YtooninmicfcfoaaGreat.ChnT
