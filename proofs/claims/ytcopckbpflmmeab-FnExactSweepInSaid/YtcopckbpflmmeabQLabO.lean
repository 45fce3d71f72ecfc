/-
  PROVED: over a slice of labels in memory spec.SetOk and impl.SetOk answer alike, as a plain function on lists says; nothing that was there is changed.
-/
import Derived.Test.YtcopckbpflmmeabQLabS
import Derived.Test.YtcopckbpflmmeabQOver
set_option linter.unusedVariables false
namespace Go.Proofs.Ytcopckbpflmmeab.LabO
open Go.RowKit
open Labs LabS
open Over
open StrB (lessB retB drew_more)

def okAt (l : List Lab) (i : Nat) : Bool := labB (nth l i) && (decide (i = 0) || lessB (nth l (i - 1)).1 (nth l i).1)
def setB (l : List Lab) : Bool := decide (l.length ≤ 4) && (List.range l.length).all (okAt l)
theorem set_long {l : List Lab} (h : 4 < l.length) : setB l = false := by
  unfold setB
  rw [decide_eq_false (by omega), Bool.false_and]
def Fits (l : List Lab) : Prop := ∀ i, i < l.length → (nth l i).1.size ≤ maxLen ∧ (nth l i).2.size ≤ maxLen

end Go.Proofs.Ytcopckbpflmmeab.LabO
