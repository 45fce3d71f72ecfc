/-
  Plain lists of labels: putting one into a sorted list from the right, sorting by that, what SortSet answers. No program is spoken of.
-/
import Derived.Test.YtdbmpaocfmhlhaaQLabO
namespace Go.Proofs.Ytdbmpaocfmhlhaa.LabP
open Go.RowKit
open Go.Proofs.Ytdbmpaocfmhlhaa.Labs Go.Proofs.Ytdbmpaocfmhlhaa.LabS
open Go.Proofs.Ytdbmpaocfmhlhaa.StrB (lessB retB)
open Go.Proofs.Ytdbmpaocfmhlhaa.LabO (setB set_long okAt)
set_option linter.unusedVariables false

/-- x put into p ahead of its j-th one -/
def mid (p : List Lab) (x : Lab) (j : Nat) : List Lab := p.take j ++ x :: p.drop j
/-- how far from the left x stands in p, looked for from the k-th one down -/
def pos (x : Lab) (p : List Lab) : Nat → Nat
  | 0 => 0
  | k + 1 => if lessB x.1 (nth p k).1 = true then pos x p k else k + 1
theorem pos_le (x : Lab) (p : List Lab) : ∀ k, pos x p k ≤ k
  | 0 => Nat.le_refl _
  | k + 1 => by
    unfold pos
    split
    · exact Nat.le_succ_of_le (pos_le x p k)
    · exact Nat.le_refl _
def ins (p : List Lab) (x : Lab) : List Lab := mid p x (pos x p p.length)
/-- the first k of l, sorted -/
def upto (l : List Lab) : Nat → List Lab
  | 0 => []
  | k + 1 => ins (upto l k) (nth l k)
/-- the row while the i-th one is on its way down at place j: p sorted, x, then the rest of l -/
def row (l : List Lab) (i j : Nat) : List Lab := mid (upto l i) (nth l i) j ++ l.drop (i + 1)
end Go.Proofs.Ytdbmpaocfmhlhaa.LabP
