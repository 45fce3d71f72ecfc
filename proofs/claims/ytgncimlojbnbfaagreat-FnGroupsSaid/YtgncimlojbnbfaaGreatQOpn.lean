/-
  A struct by value that came in, whatever the number of its fields: each field's cell is read as a datum of the field's type.
-/
import Derived.Lib.SmallJoins
import Derived.ChangeShapes
set_option linter.unusedVariables false
namespace Go.Proofs.YtgncimlojbnbfaaGreat.Opn
open Go.RowKit
open Go.ChangeShapes Go.WideShapes Go.Deep
end Go.Proofs.YtgncimlojbnbfaaGreat.Opn
