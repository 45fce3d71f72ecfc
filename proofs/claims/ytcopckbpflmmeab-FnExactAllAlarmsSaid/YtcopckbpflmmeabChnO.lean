/-
  PROVED: over a chain in memory impl.ChainOk answers as a plain function on lists says; nothing that was there is changed.
-/
import Derived.Test.YtcopckbpflmmeabChnI
import Derived.Test.YtcopckbpflmmeabFing
namespace Go.Proofs.Ytcopckbpflmmeab.ChnO
open Go.RowKit
open Go.Proofs.Ytcopckbpflmmeab.Labs Go.Proofs.Ytcopckbpflmmeab.LabS Go.Proofs.Ytcopckbpflmmeab.Alms Go.Proofs.Ytcopckbpflmmeab.AlmS Go.Proofs.Ytcopckbpflmmeab.Over Go.Proofs.Ytcopckbpflmmeab.Blk Go.Proofs.Ytcopckbpflmmeab.Rnd Go.Proofs.Ytcopckbpflmmeab.Plc Go.Proofs.Ytcopckbpflmmeab.Lop Go.Proofs.Ytcopckbpflmmeab.App Go.Proofs.Ytcopckbpflmmeab.Rws Go.Proofs.Ytcopckbpflmmeab.ChnI
open Go.Proofs.Ytcopckbpflmmeab.Fing (fingerB)
open Go.Proofs.Ytcopckbpflmmeab.StrB (retB)
set_option linter.unusedVariables false
attribute [local go_sem] Oper.semAt_some

/-- whether the i-th alarm may stand where it does -/
def okC (f : Int) (P : List PAl) (i : Nat) : Bool := alarmB (nthP P i).l (nthP P i).s (nthP P i).e (nthP P i).n && (decide ((fingerB (nthP P i).l : Int) = f) && decide (idxB P (nthP P i).l = (i : Int)))
def chainB (f : Int) (P : List PAl) : Bool := (List.range P.length).all (okC f P) && decide (0 < P.length)
theorem okC_1 {f : Int} {P : List PAl} {i : Nat} (h : alarmB (nthP P i).l (nthP P i).s (nthP P i).e (nthP P i).n = false) : okC f P i = false := by simp [okC, h]
theorem okC_2 {f : Int} {P : List PAl} {i : Nat} (h : (fingerB (nthP P i).l : Int) ≠ f) : okC f P i = false := by simp [okC, h]
theorem okC_3 {f : Int} {P : List PAl} {i : Nat} (h : idxB P (nthP P i).l ≠ (i : Int)) : okC f P i = false := by simp [okC, h]
theorem okC_y {f : Int} {P : List PAl} {i : Nat} (h1 : alarmB (nthP P i).l (nthP P i).s (nthP P i).e (nthP P i).n = true) (h2 : (fingerB (nthP P i).l : Int) = f) (h3 : idxB P (nthP P i).l = (i : Int)) : okC f P i = true := by simp [okC, h1, h2, h3]
theorem chain_bad {f : Int} {P : List PAl} {i : Nat} (hi : i < P.length) (h : okC f P i = false) : chainB f P = false := by
  unfold chainB
  rw [Bool.and_eq_false_iff]
  left
  rw [List.all_eq_false]
  exact ⟨i, by simpa using hi, by simp [h]⟩
theorem chain_good {f : Int} {P : List PAl} (h : ∀ i, i < P.length → okC f P i = true) : chainB f P = decide (0 < P.length) := by
  unfold chainB
  rw [List.all_eq_true.2 (fun i hi => h i (by simpa using hi))]; rfl

end Go.Proofs.Ytcopckbpflmmeab.ChnO
