/-
  PROVED: impl.SameGroup and impl.SameBatch answer as plain functions on numbers and lists say; nothing that was there is changed.
-/
import Derived.Test.YtgncimlojbnbfaaGrpO
namespace Go.Proofs.Ytgncimlojbnbfaa.GrpI
open Go.RowKit
open Go.Proofs.Ytgncimlojbnbfaa.Labs Go.Proofs.Ytgncimlojbnbfaa.LabS Go.Proofs.Ytgncimlojbnbfaa.Alms Go.Proofs.Ytgncimlojbnbfaa.AlmS Go.Proofs.Ytgncimlojbnbfaa.AlmM Go.Proofs.Ytgncimlojbnbfaa.Over Go.Proofs.Ytgncimlojbnbfaa.Blk Go.Proofs.Ytgncimlojbnbfaa.App Go.Proofs.Ytgncimlojbnbfaa.Rws Go.Proofs.Ytgncimlojbnbfaa.ChnI Go.Proofs.Ytgncimlojbnbfaa.ChnC Go.Proofs.Ytgncimlojbnbfaa.Grp Go.Proofs.Ytgncimlojbnbfaa.GrpO
open Go.Proofs.Ytgncimlojbnbfaa.StrB (retB)
set_option linter.unusedVariables false
end Go.Proofs.Ytgncimlojbnbfaa.GrpI
