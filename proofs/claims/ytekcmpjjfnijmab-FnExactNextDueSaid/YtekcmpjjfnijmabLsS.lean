/-
  PROVED: over two lists of alarms in memory spec.l4Same, laws.sameList and slices.EqualFunc answer whether they are the same; nothing that was there is changed.
-/
import Derived.Test.YtekcmpjjfnijmabLst
namespace Go.Proofs.Ytekcmpjjfnijmab.ChnS
open Go.RowKit
open Go.Proofs.Ytekcmpjjfnijmab.Labs Go.Proofs.Ytekcmpjjfnijmab.LabS Go.Proofs.Ytekcmpjjfnijmab.Alms Go.Proofs.Ytekcmpjjfnijmab.AlmM Go.Proofs.Ytekcmpjjfnijmab.Over Go.Proofs.Ytekcmpjjfnijmab.Blk Go.Proofs.Ytekcmpjjfnijmab.App Go.Proofs.Ytekcmpjjfnijmab.Rws
open Go.Proofs.Ytekcmpjjfnijmab.AlmS Go.Proofs.Ytekcmpjjfnijmab.ChnI
open Go.Proofs.Ytekcmpjjfnijmab.StrB (retB)
open Go.Proofs.Ytekcmpjjfnijmab.Alm (at_par)
set_option linter.unusedVariables false
end Go.Proofs.Ytekcmpjjfnijmab.ChnS
namespace Go.Proofs.Ytekcmpjjfnijmab.ChnT
open Go.RowKit
open Go.Proofs.Ytekcmpjjfnijmab.Labs Go.Proofs.Ytekcmpjjfnijmab.LabS Go.Proofs.Ytekcmpjjfnijmab.Alms Go.Proofs.Ytekcmpjjfnijmab.AlmM Go.Proofs.Ytekcmpjjfnijmab.Over Go.Proofs.Ytekcmpjjfnijmab.Blk Go.Proofs.Ytekcmpjjfnijmab.App Go.Proofs.Ytekcmpjjfnijmab.Rws
open Go.Proofs.Ytekcmpjjfnijmab.AlmS Go.Proofs.Ytekcmpjjfnijmab.ChnI
open Go.Proofs.Ytekcmpjjfnijmab.StrB (retB)
open Go.Proofs.Ytekcmpjjfnijmab.Alm (at_par)
set_option linter.unusedVariables false
end Go.Proofs.Ytekcmpjjfnijmab.ChnT
