/-
  PROVED: over two lists of alarms in memory spec.l4Same, laws.sameList and slices.EqualFunc answer whether they are the same; nothing that was there is changed.
-/
import Derived.Test.YtgncimlojbnbfabLst
namespace Go.Proofs.Ytgncimlojbnbfab.ChnS
open Go.RowKit
open Go.Proofs.Ytgncimlojbnbfab.Labs Go.Proofs.Ytgncimlojbnbfab.LabS Go.Proofs.Ytgncimlojbnbfab.Alms Go.Proofs.Ytgncimlojbnbfab.AlmM Go.Proofs.Ytgncimlojbnbfab.Over Go.Proofs.Ytgncimlojbnbfab.Blk Go.Proofs.Ytgncimlojbnbfab.App Go.Proofs.Ytgncimlojbnbfab.Rws
open Go.Proofs.Ytgncimlojbnbfab.AlmS Go.Proofs.Ytgncimlojbnbfab.ChnI
open Go.Proofs.Ytgncimlojbnbfab.StrB (retB)
open Go.Proofs.Ytgncimlojbnbfab.Alm (at_par)
set_option linter.unusedVariables false
end Go.Proofs.Ytgncimlojbnbfab.ChnS
namespace Go.Proofs.Ytgncimlojbnbfab.ChnT
open Go.RowKit
open Go.Proofs.Ytgncimlojbnbfab.Labs Go.Proofs.Ytgncimlojbnbfab.LabS Go.Proofs.Ytgncimlojbnbfab.Alms Go.Proofs.Ytgncimlojbnbfab.AlmM Go.Proofs.Ytgncimlojbnbfab.Over Go.Proofs.Ytgncimlojbnbfab.Blk Go.Proofs.Ytgncimlojbnbfab.App Go.Proofs.Ytgncimlojbnbfab.Rws
open Go.Proofs.Ytgncimlojbnbfab.AlmS Go.Proofs.Ytgncimlojbnbfab.ChnI
open Go.Proofs.Ytgncimlojbnbfab.StrB (retB)
open Go.Proofs.Ytgncimlojbnbfab.Alm (at_par)
set_option linter.unusedVariables false
end Go.Proofs.Ytgncimlojbnbfab.ChnT
