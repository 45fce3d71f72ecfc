/-
  PROVED: over a chain and labels in memory impl.InChain answers as a plain function on lists says; nothing that was there is changed.
-/
import Derived.Test.YtdbmpaocfmhlhabLop
import Derived.Test.YtdbmpaocfmhlhabRws
namespace Go.Proofs.Ytdbmpaocfmhlhab.ChnI
open Go.RowKit
open Go.Proofs.Ytdbmpaocfmhlhab.Labs Go.Proofs.Ytdbmpaocfmhlhab.LabS Go.Proofs.Ytdbmpaocfmhlhab.Alms Go.Proofs.Ytdbmpaocfmhlhab.Over Go.Proofs.Ytdbmpaocfmhlhab.Blk Go.Proofs.Ytdbmpaocfmhlhab.Rnd Go.Proofs.Ytdbmpaocfmhlhab.Plc Go.Proofs.Ytdbmpaocfmhlhab.Lop Go.Proofs.Ytdbmpaocfmhlhab.App Go.Proofs.Ytdbmpaocfmhlhab.Rws
set_option linter.unusedVariables false
attribute [local go_sem] Oper.semAt_some

def LenP (P : List PAl) : Prop := ∀ i, i < P.length → (nthP P i).l.length ≤ maxLen
theorem set_low {B M : Nat} {w w' : World} (h : Below B w w') (hM : B ≤ M) (i : Nat) (v : Value) : Below B w (w'.setCell ⟨M, i, none⟩ v) := h.setCell (p := ⟨M, i, none⟩) hM v
theorem retI {a b : Int} (h : a = b) : Ending.returned (.int .i64 a) = .returned (.int .i64 b) := by rw [h]
end Go.Proofs.Ytdbmpaocfmhlhab.ChnI
