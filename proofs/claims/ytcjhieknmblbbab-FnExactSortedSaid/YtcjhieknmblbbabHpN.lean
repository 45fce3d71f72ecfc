/-
  PROVED: impl.HeapOk answers as the plain function on lists says; nothing that was there is changed.
-/
import Derived.Test.YtcjhieknmblbbabHpJ
namespace Go.Proofs.Ytcjhieknmblbbab.HpN
open Go.RowKit
open Go.Proofs.Ytcjhieknmblbbab.Hp Go.Proofs.Ytcjhieknmblbbab.Tms Go.Proofs.Ytcjhieknmblbbab.TmO Go.Proofs.Ytcjhieknmblbbab.TmR Go.Proofs.Ytcjhieknmblbbab.HpJ Go.Proofs.Ytcjhieknmblbbab.Over Go.Proofs.Ytcjhieknmblbbab.Blk
set_option linter.unusedVariables false
theorem ok_eq (l : List Tm) (k : Nat) : okAt l k = (decide (0 ≤ (nthT l k).1) && decide (0 ≤ (nthT l k).2) && !befB (nthT l k) (nthT l (par k))) := by
  unfold okAt
  by_cases h : k = 0
  · subst h
    have : par 0 = 0 := rfl
    rw [this, bef_irr]; simp
  · rw [decide_eq_false h, Bool.false_or]
end Go.Proofs.Ytcjhieknmblbbab.HpN
