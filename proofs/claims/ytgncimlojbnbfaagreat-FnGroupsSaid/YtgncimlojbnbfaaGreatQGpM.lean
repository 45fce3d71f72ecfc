/-
  PROVED: the marks that markGroupS writes lie in the groups' own memory alone, and heldGroupS finds them.
-/
import Derived.Test.YtgncimlojbnbfaaGreatQGps
set_option linter.unusedVariables false
namespace Go.Proofs.YtgncimlojbnbfaaGreat.GpM
open Go.RowKit
open Labs LabS Alms AlmM Over Blk App Rws ChnI ChnC ChnK Chs Grp Gps
def blksG (M : Nat) (us : List GRow) (k : Nat) : Prop := k = M ∨ ∃ x ∈ us, x.blks k
theorem blksG_low {lo : Nat} {w : World} {M c : Nat} {us : List GRow} (h : GsB lo w M c us) (k : Nat) (hk : blksG M us k) : lo ≤ k := by
  rcases hk with rfl | ⟨x, hx, hk⟩
  · exact h.at'
  · exact (h.rows.rng hx k hk).1
end Go.Proofs.YtgncimlojbnbfaaGreat.GpM
