/-
  The builtin append as a step of a region that draws its order, onto a row of the call's own.
-/
import Derived.Test.YtbccaioahifloaaQBlk
import Derived.Maps.AppendAt
import Derived.Deep.AppendLies
import Derived.Deep.RegionHeld3
namespace Go.Proofs.Ytbccaioahifloaa.App
open Go.RowKit Go.Proofs.Ytbccaioahifloaa.Over Go.Proofs.Ytbccaioahifloaa.Blk
set_option linter.unusedVariables false

/-- an empty row, new -/
theorem own_empty {w : World} {B M : Nat} {e : TypeId} {size : Nat} (h : Blk w M #[] e) (hB : B ≤ M) : w.ownsRow B e size (.slice (some ⟨M, 0, none⟩) 0 0) 0 [] :=
  ⟨by simp, .inr ⟨M, 0, #[], rfl, hB, h, Nat.le_refl _, by simp [maxLen], by simp, by simp⟩⟩
theorem blk_far {w w' : World} {M : Nat} {cs : Array Value} {e : TypeId} {row : Option Nat} (h : Blk w M cs e) (hg : w.grownBy w' row) (hne : some M ≠ row) : Blk w' M cs e := by
  unfold Blk at *
  rw [hg.block M (Array.getElem?_eq_some_iff.1 h).1 hne]; exact h
end Go.Proofs.Ytbccaioahifloaa.App
