/-
  PROVED: over chains in memory spec.InChain, spec.ChainOk, spec.SameChain and impl.SameChain answer as plain functions on lists say; nothing that was there is changed.
-/
import Derived.Test.YtcopckbpflmmeabChnO
import Derived.Test.YtcopckbpflmmeabLsS
namespace Go.Proofs.Ytcopckbpflmmeab.ChnS
open Go.RowKit
open Go.Proofs.Ytcopckbpflmmeab.Labs Go.Proofs.Ytcopckbpflmmeab.LabS Go.Proofs.Ytcopckbpflmmeab.Alms Go.Proofs.Ytcopckbpflmmeab.AlmS Go.Proofs.Ytcopckbpflmmeab.Over Go.Proofs.Ytcopckbpflmmeab.Blk Go.Proofs.Ytcopckbpflmmeab.Rws Go.Proofs.Ytcopckbpflmmeab.ChnI Go.Proofs.Ytcopckbpflmmeab.ChnO
open Go.Proofs.Ytcopckbpflmmeab.Fing (fingerB)
open Go.Proofs.Ytcopckbpflmmeab.StrB (retB)
open Go.Proofs.Ytcopckbpflmmeab.Alm (at_par)
set_option linter.unusedVariables false

theorem ok_first {f : Int} {P : List PAl} {i : Nat} (hi : i < P.length) (h1 : alarmB (nthP P i).l (nthP P i).s (nthP P i).e (nthP P i).n = true) (h2 : (fingerB (nthP P i).l : Int) = f) (h3 : ∀ j, j < i → (nthP P j).l ≠ (nthP P i).l) : okC f P i = true := okC_y h1 h2 (idx_hit h3 rfl hi)
theorem ok_again {f : Int} {P : List PAl} {i j : Nat} (hj : j < i) (h : (nthP P j).l = (nthP P i).l) : okC f P i = false := by
  refine okC_3 fun e => ?_
  rcases idx_cases P (nthP P i).l with ⟨q, hm⟩ | ⟨k, q, hk, he, hm⟩
  · rw [q] at e; omega
  · rw [q] at e
    have : k = i := by omega
    subst this
    exact hm j hj h
end Go.Proofs.Ytcopckbpflmmeab.ChnS
