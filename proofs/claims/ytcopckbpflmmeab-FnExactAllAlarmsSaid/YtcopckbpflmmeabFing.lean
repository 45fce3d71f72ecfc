/-
  PROVED: over a slice of labels in memory spec.Finger and impl.Finger answer alike, between nought and 31, as a plain function says; so do spec.Alike and impl.Alike over two; nothing that was there is changed.
-/
import Derived.Test.YtcopckbpflmmeabSums
import Derived.Test.YtcopckbpflmmeabTextI
namespace Go.Proofs.Ytcopckbpflmmeab.Fing
open Go.RowKit
open Go.Proofs.Ytcopckbpflmmeab.Labs Go.Proofs.Ytcopckbpflmmeab.LabS Go.Proofs.Ytcopckbpflmmeab.LabO Go.Proofs.Ytcopckbpflmmeab.SetP Go.Proofs.Ytcopckbpflmmeab.TextS Go.Proofs.Ytcopckbpflmmeab.TextI Go.Proofs.Ytcopckbpflmmeab.Sums
open Go.Proofs.Ytcopckbpflmmeab.Over
set_option linter.unusedVariables false

def foldB (x : Nat) : Nat := (x ^^^ (x / 65536)) % 32
def fingerB (l : List Lab) : Nat := foldB (sumB (setText l))
theorem foldB_lt (x : Nat) : foldB x < 32 := Nat.mod_lt _ (by decide)
theorem finger_lt (l : List Lab) : fingerB l < 32 := foldB_lt _
theorem text_max (l : List Lab) : (setText l).size ≤ maxLen := by have := setText_size l; unfold maxLen; omega

/-- unlike sets of one finger -/
def alikeB (l m : List Lab) : Bool := !decide (l = m) && decide ((fingerB l : Int) = (fingerB m : Int))
theorem alike_self (l : List Lab) : alikeB l l = false := by simp [alikeB]
theorem alike_comm (l m : List Lab) : alikeB l m = alikeB m l := by
  unfold alikeB
  rw [show decide (l = m) = decide (m = l) by rw [decide_eq_decide]; exact eq_comm, show decide ((fingerB l : Int) = (fingerB m : Int)) = decide ((fingerB m : Int) = (fingerB l : Int)) by rw [decide_eq_decide]; exact eq_comm]
theorem retB {a b : Bool} (h : a = b) : Ending.returned (.bool a) = .returned (.bool b) := by rw [h]
end Go.Proofs.Ytcopckbpflmmeab.Fing
