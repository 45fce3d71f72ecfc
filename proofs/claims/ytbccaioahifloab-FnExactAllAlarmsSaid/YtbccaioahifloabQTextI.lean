/-
  PROVED: over a slice of labels in memory impl.SetText answers the text of the set, nothing where it is no set, by the library's contract of strings.Join; nothing that was there is changed.
-/
import Derived.Test.YtbccaioahifloabQTextS
import Derived.Test.YtbccaioahifloabQBlk
import Derived.Test.YtbccaioahifloabQShelf
import Derived.Lib.Walk
namespace Go.Proofs.Ytbccaioahifloab.TextI
open Go.Shelf Go.RowKit
open Go.Proofs.Ytbccaioahifloab.Labs Go.Proofs.Ytbccaioahifloab.LabS Go.Proofs.Ytbccaioahifloab.LabO Go.Proofs.Ytbccaioahifloab.SetP Go.Proofs.Ytbccaioahifloab.TextS
open Go.Proofs.Ytbccaioahifloab.Over Go.Proofs.Ytbccaioahifloab.Blk
set_option linter.unusedVariables false

end Go.Proofs.Ytbccaioahifloab.TextI
