/-
  PROVED: over a slice of labels in memory spec.SetOk and impl.SetOk answer alike, as a plain function on lists says; nothing that was there is changed.
-/
import Derived.Test.YtgncimlojbnbfabLabS
import Derived.Test.YtgncimlojbnbfabOver
namespace Go.Proofs.Ytgncimlojbnbfab.LabO
open Go.RowKit
open Go.Proofs.Ytgncimlojbnbfab.Labs Go.Proofs.Ytgncimlojbnbfab.LabS
open Go.Proofs.Ytgncimlojbnbfab.Over
open Go.Proofs.Ytgncimlojbnbfab.StrB (lessB retB drew_more)
set_option linter.unusedVariables false

/-- whether the i-th one may stand there -/
def okAt (l : List Lab) (i : Nat) : Bool := labB (nth l i) && (decide (i = 0) || lessB (nth l (i - 1)).1 (nth l i).1)
/-- whether a list of labels is a set in order -/
def setB (l : List Lab) : Bool := decide (l.length ≤ 4) && (List.range l.length).all (okAt l)
theorem set_bad {l : List Lab} {k : Nat} (hk : k < l.length) (h : okAt l k = false) : setB l = false := by
  unfold setB
  rw [Bool.and_eq_false_iff]
  right
  rw [List.all_eq_false]
  exact ⟨k, List.mem_range.2 hk, by rw [h]; simp⟩
theorem set_good {l : List Lab} (h : ∀ j, j < l.length → okAt l j = true) : setB l = decide (l.length ≤ 4) := by
  unfold setB
  rw [List.all_eq_true.2 fun i hi => h i (List.mem_range.1 hi), Bool.and_true]
theorem set_long {l : List Lab} (h : 4 < l.length) : setB l = false := by
  unfold setB
  rw [decide_eq_false (by omega), Bool.false_and]
theorem ok_no {l : List Lab} {k : Nat} (h : labB (nth l k) = false) : okAt l k = false := by unfold okAt; rw [h]; rfl
theorem ok_first {l : List Lab} (h : labB (nth l 0) = true) : okAt l 0 = true := by unfold okAt; rw [h]; rfl
theorem ok_next {l : List Lab} {j : Nat} (h : labB (nth l (j + 1)) = true) : okAt l (j + 1) = lessB (nth l j).1 (nth l (j + 1)).1 := by
  unfold okAt; rw [h]; simp
theorem ok_up {l : List Lab} {k : Nat} (hj : ∀ j, j < k → okAt l j = true) (he : okAt l k = true) : ∀ j, j < k + 1 → okAt l j = true := fun j h => by
  by_cases e : j = k
  · subst e; exact he
  · exact hj j (by omega)

def Fits (l : List Lab) : Prop := ∀ i, i < l.length → (nth l i).1.size ≤ maxLen ∧ (nth l i).2.size ≤ maxLen

end Go.Proofs.Ytgncimlojbnbfab.LabO
