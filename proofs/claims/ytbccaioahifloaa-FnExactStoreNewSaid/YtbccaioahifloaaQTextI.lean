/-
  PROVED: over a slice of labels in memory impl.SetText answers the text of the set, nothing where it is no set, by the library's contract of strings.Join; nothing that was there is changed.
-/
import Derived.Test.YtbccaioahifloaaQTextS
import Derived.Test.YtbccaioahifloaaQBlk
import Derived.Test.YtbccaioahifloaaQShelf
import Derived.Lib.Walk
namespace Go.Proofs.Ytbccaioahifloaa.TextI
open Go.Shelf Go.RowKit
open Go.Proofs.Ytbccaioahifloaa.Labs Go.Proofs.Ytbccaioahifloaa.LabS Go.Proofs.Ytbccaioahifloaa.LabO Go.Proofs.Ytbccaioahifloaa.SetP Go.Proofs.Ytbccaioahifloaa.TextS
open Go.Proofs.Ytbccaioahifloaa.Over Go.Proofs.Ytbccaioahifloaa.Blk
set_option linter.unusedVariables false

end Go.Proofs.Ytbccaioahifloaa.TextI
