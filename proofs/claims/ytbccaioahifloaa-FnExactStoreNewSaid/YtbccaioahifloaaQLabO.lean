/-
  PROVED: over a slice of labels in memory spec.SetOk and impl.SetOk answer alike, as a plain function on lists says; nothing that was there is changed.
-/
import Derived.Test.YtbccaioahifloaaQLabS
import Derived.Test.YtbccaioahifloaaQOver
namespace Go.Proofs.Ytbccaioahifloaa.LabO
open Go.RowKit
open Go.Proofs.Ytbccaioahifloaa.Labs Go.Proofs.Ytbccaioahifloaa.LabS
open Go.Proofs.Ytbccaioahifloaa.Over
open Go.Proofs.Ytbccaioahifloaa.StrB (lessB retB drew_more)
set_option linter.unusedVariables false

/-- whether the i-th one may stand there -/
def okAt (l : List Lab) (i : Nat) : Bool := labB (nth l i) && (decide (i = 0) || lessB (nth l (i - 1)).1 (nth l i).1)
/-- whether a list of labels is a set in order -/
def setB (l : List Lab) : Bool := decide (l.length ≤ 4) && (List.range l.length).all (okAt l)
theorem set_long {l : List Lab} (h : 4 < l.length) : setB l = false := by
  unfold setB
  rw [decide_eq_false (by omega), Bool.false_and]
def Fits (l : List Lab) : Prop := ∀ i, i < l.length → (nth l i).1.size ≤ maxLen ∧ (nth l i).2.size ≤ maxLen

end Go.Proofs.Ytbccaioahifloaa.LabO
