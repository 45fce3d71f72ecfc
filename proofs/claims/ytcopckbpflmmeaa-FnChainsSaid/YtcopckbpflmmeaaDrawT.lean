/-
  PROVED: the contract of spec.DrawSetLess: two slices of a few small labels in memory of its own; nothing that was there is changed.
-/
import Derived.Test.YtcopckbpflmmeaaDrawL
namespace Go.Proofs.Ytcopckbpflmmeaa.DrawT
open Go.RowKit
open Go.Proofs.Ytcopckbpflmmeaa.Draw
open Go.Proofs.Ytcopckbpflmmeaa.Labs Go.Proofs.Ytcopckbpflmmeaa.LabS Go.Proofs.Ytcopckbpflmmeaa.Over Go.Proofs.Ytcopckbpflmmeaa.DrawL
set_option linter.unusedVariables false

theorem small_fits {p : List Lab} (h : Small p) : ∀ i, i < p.length → (nth p i).1.size ≤ maxLen ∧ (nth p i).2.size ≤ maxLen := fun i hi => by
  rw [nth_eq hi]
  have := h _ (List.getElem_mem hi)
  unfold maxLen
  exact ⟨by omega, by omega⟩
/-- the draw's world, seen from the law's -/
theorem low_of {w w1 w2 : World} (h1 : Below w.heap.size w w1) (hc : w.heap.size < w1.heap.size) (h2 : Kept w.heap.size w1 w2) : Below w.heap.size w w2 := h1.trans (h2.below (Nat.le_refl _) (Nat.le_of_lt hc))

end Go.Proofs.Ytcopckbpflmmeaa.DrawT
