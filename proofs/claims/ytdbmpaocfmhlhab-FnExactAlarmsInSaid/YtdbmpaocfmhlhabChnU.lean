/-
  PROVED: over chains in memory spec.l6Copy, spec.PutChain and spec.DropOver answer as plain functions on lists say, in memory of their own; nothing that was there is changed.
-/
import Derived.Test.YtdbmpaocfmhlhabChnT
namespace Go.Proofs.Ytdbmpaocfmhlhab.ChnU
open Go.RowKit
open Go.Proofs.Ytdbmpaocfmhlhab.Labs Go.Proofs.Ytdbmpaocfmhlhab.LabS Go.Proofs.Ytdbmpaocfmhlhab.Alms Go.Proofs.Ytdbmpaocfmhlhab.AlmS Go.Proofs.Ytdbmpaocfmhlhab.AlmM Go.Proofs.Ytdbmpaocfmhlhab.Over Go.Proofs.Ytdbmpaocfmhlhab.Blk Go.Proofs.Ytdbmpaocfmhlhab.App Go.Proofs.Ytdbmpaocfmhlhab.Rws Go.Proofs.Ytdbmpaocfmhlhab.ChnI Go.Proofs.Ytdbmpaocfmhlhab.ChnC Go.Proofs.Ytdbmpaocfmhlhab.ChnP Go.Proofs.Ytdbmpaocfmhlhab.ChnD Go.Proofs.Ytdbmpaocfmhlhab.ChnS Go.Proofs.Ytdbmpaocfmhlhab.ChnT
set_option linter.unusedVariables false

end Go.Proofs.Ytdbmpaocfmhlhab.ChnU
