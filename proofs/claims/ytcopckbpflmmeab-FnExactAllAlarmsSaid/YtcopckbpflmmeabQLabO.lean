/-
  PROVED: over a slice of labels in memory spec.SetOk and impl.SetOk answer alike, as a plain function on lists says; nothing that was there is changed.
-/
import Derived.Test.YtcopckbpflmmeabQLabS
import Derived.Test.YtcopckbpflmmeabQOver
set_option linter.unusedVariables false
namespace Go.Proofs.Ytcopckbpflmmeab.LabO
open Go.RowKit
open Labs LabS
open Over
open StrB (lessB retB drew_more)

def okAt (l : List Lab) (i : Nat) : Bool := labB (nth l i) && (decide (i = 0) || lessB (nth l (i - 1)).1 (nth l i).1)
def setB (l : List Lab) : Bool := decide (l.length ≤ 4) && (List.range l.length).all (okAt l)
theorem set_bad {l : List Lab} {k : Nat} (hk : k < l.length) (h : okAt l k = false) : setB l = false := by
  unfold setB
  rw [Bool.and_eq_false_iff]
  right
  rw [List.all_eq_false]
  exact ⟨k, List.mem_range.2 hk, by rw [h]; simp⟩
theorem set_good {l : List Lab} (h : ∀ j, j < l.length → okAt l j = true) : setB l = decide (l.length ≤ 4) := by
  unfold setB
  rw [List.all_eq_true.2 fun i hi => h i (List.mem_range.1 hi), Bool.and_true]
theorem set_long {l : List Lab} (h : 4 < l.length) : setB l = false := by
  unfold setB
  rw [decide_eq_false (by omega), Bool.false_and]
theorem ok_first {l : List Lab} (h : labB (nth l 0) = true) : okAt l 0 = true := by unfold okAt; rw [h]; rfl
def Fits (l : List Lab) : Prop := ∀ i, i < l.length → (nth l i).1.size ≤ maxLen ∧ (nth l i).2.size ≤ maxLen

end Go.Proofs.Ytcopckbpflmmeab.LabO
