/-
  PROVED: over two lists of alarms in memory spec.l4Same, laws.sameList and slices.EqualFunc answer whether they are the same; nothing that was there is changed.
-/
import Derived.Test.YtdmhccheaemkkabLst
namespace Go.Proofs.Ytdmhccheaemkkab.ChnS
open Go.RowKit
open Go.Proofs.Ytdmhccheaemkkab.Labs Go.Proofs.Ytdmhccheaemkkab.LabS Go.Proofs.Ytdmhccheaemkkab.Alms Go.Proofs.Ytdmhccheaemkkab.AlmM Go.Proofs.Ytdmhccheaemkkab.Over Go.Proofs.Ytdmhccheaemkkab.Blk Go.Proofs.Ytdmhccheaemkkab.App Go.Proofs.Ytdmhccheaemkkab.Rws
open Go.Proofs.Ytdmhccheaemkkab.AlmS Go.Proofs.Ytdmhccheaemkkab.ChnI
open Go.Proofs.Ytdmhccheaemkkab.StrB (retB)
open Go.Proofs.Ytdmhccheaemkkab.Alm (at_par)
set_option linter.unusedVariables false
end Go.Proofs.Ytdmhccheaemkkab.ChnS
namespace Go.Proofs.Ytdmhccheaemkkab.ChnT
open Go.RowKit
open Go.Proofs.Ytdmhccheaemkkab.Labs Go.Proofs.Ytdmhccheaemkkab.LabS Go.Proofs.Ytdmhccheaemkkab.Alms Go.Proofs.Ytdmhccheaemkkab.AlmM Go.Proofs.Ytdmhccheaemkkab.Over Go.Proofs.Ytdmhccheaemkkab.Blk Go.Proofs.Ytdmhccheaemkkab.App Go.Proofs.Ytdmhccheaemkkab.Rws
open Go.Proofs.Ytdmhccheaemkkab.AlmS Go.Proofs.Ytdmhccheaemkkab.ChnI
open Go.Proofs.Ytdmhccheaemkkab.StrB (retB)
open Go.Proofs.Ytdmhccheaemkkab.Alm (at_par)
set_option linter.unusedVariables false
end Go.Proofs.Ytdmhccheaemkkab.ChnT
