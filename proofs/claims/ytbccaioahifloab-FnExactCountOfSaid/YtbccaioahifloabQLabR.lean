/-
  The builtin copy of a whole row whose elements have several cells, into a block of the call's own.
  Plain lists of labels: putting one into a sorted list from the right, sorting by that, what SortSet answers. No program is spoken of.
  PROVED: the contracts of the comparing function that SortSet hands to the library's sort, and of the library's insertion sort over labels: it leaves the row sorted as the plain lists say.
  PROVED: impl.SortSet, through the library's stable sort, answers what the plain lists say, in memory of its own; nothing that was there is changed.
-/
import Derived.Test.YtbccaioahifloabQBlk
import Derived.Laws.CopyOwn
import Derived.Laws.Append
import Derived.Test.YtbccaioahifloabQLabO
import Derived.Test.YtbccaioahifloabQLabT
namespace Go.Proofs.Ytbccaioahifloab.CopyK
open Go.RowKit Go.Proofs.Ytbccaioahifloab.Over Go.Proofs.Ytbccaioahifloab.Blk
set_option linter.unusedVariables false

end Go.Proofs.Ytbccaioahifloab.CopyK
namespace Go.Proofs.Ytbccaioahifloab.LabP
open Go.RowKit
open Go.Proofs.Ytbccaioahifloab.Labs Go.Proofs.Ytbccaioahifloab.LabS
open Go.Proofs.Ytbccaioahifloab.StrB (lessB retB)
open Go.Proofs.Ytbccaioahifloab.LabO (setB set_long okAt)
set_option linter.unusedVariables false

/-- x put into p ahead of its j-th one -/
def mid (p : List Lab) (x : Lab) (j : Nat) : List Lab := p.take j ++ x :: p.drop j
/-- how far from the left x stands in p, looked for from the k-th one down -/
def pos (x : Lab) (p : List Lab) : Nat → Nat
  | 0 => 0
  | k + 1 => if lessB x.1 (nth p k).1 = true then pos x p k else k + 1
def ins (p : List Lab) (x : Lab) : List Lab := mid p x (pos x p p.length)
/-- the first k of l, sorted -/
def upto (l : List Lab) : Nat → List Lab
  | 0 => []
  | k + 1 => ins (upto l k) (nth l k)
/-- the row while the i-th one is on its way down at place j: p sorted, x, then the rest of l -/
def row (l : List Lab) (i j : Nat) : List Lab := mid (upto l i) (nth l i) j ++ l.drop (i + 1)
end Go.Proofs.Ytbccaioahifloab.LabP
namespace Go.Proofs.Ytbccaioahifloab.LabQ
open Go.RowKit
open Go.Proofs.Ytbccaioahifloab.Labs Go.Proofs.Ytbccaioahifloab.LabS Go.Proofs.Ytbccaioahifloab.LabP Go.Proofs.Ytbccaioahifloab.Over Go.Proofs.Ytbccaioahifloab.Blk
open Go.Proofs.Ytbccaioahifloab.StrB (lessB retB)
set_option linter.unusedVariables false

theorem retI {a b : Int} (h : a = b) : Ending.returned (.int .i64 a) = .returned (.int .i64 b) := by rw [h]

/-- the cells hold what f says, up to the n-th element -/
def HeldF (cs : Array Value) (f : Nat → Lab) (n : Nat) : Prop := ∀ m, m < n → cs[m * 2]? = some (.string (f m).1) ∧ cs[m * 2 + 1]? = some (.string (f m).2)
theorem HeldF.of {cs : Array Value} {f g : Nat → Lab} {n : Nat} (h : HeldF cs f n) (e : ∀ m, m < n → g m = f m) : HeldF cs g n := fun m hm => by rw [e m hm]; exact h m hm
end Go.Proofs.Ytbccaioahifloab.LabQ
namespace Go.Proofs.Ytbccaioahifloab.LabR
open Go.RowKit
open Go.Proofs.Ytbccaioahifloab.Labs Go.Proofs.Ytbccaioahifloab.LabS Go.Proofs.Ytbccaioahifloab.LabP Go.Proofs.Ytbccaioahifloab.LabQ Go.Proofs.Ytbccaioahifloab.Over Go.Proofs.Ytbccaioahifloab.Blk Go.Proofs.Ytbccaioahifloab.CopyK
open Go.Proofs.Ytbccaioahifloab.StrB (lessB retB)
open Go.Proofs.Ytbccaioahifloab.LabO (setB set_long Fits)
open Go.Proofs.Ytbccaioahifloab.LabT (Held held_reads infoL)
set_option linter.unusedVariables false

/-- what SortSet's answer lies in: a block of its own -/
def Own (w w' : World) (M : Nat) (s : List Lab) : Prop := w.heap.size ≤ M ∧ ∃ cs : Array Value, Blk w' M cs 64 ∧ s.length * 2 ≤ cs.size ∧ Held cs s s.length
end Go.Proofs.Ytbccaioahifloab.LabR
