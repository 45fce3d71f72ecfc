/-
  PROVED: a region that draws its order, inside a round of a range over a function: what holds of every order outside a round holds inside one.
  PROVED: impl.places hands out an iterator that goes through a chain's alarms from the first to the last, each with its place, for every loop body that keeps what lay ahead.
  PROVED: a loop over a chain's places, as one law: what each round must keep, and what stands behind the loop.
  PROVED: over a chain and labels in memory impl.InChain answers as a plain function on lists says; nothing that was there is changed.
-/
import Derived.Test.YtbccaioahifloabQOver
import Derived.Deep.RegionHeld3
import Derived.RangeFuncNested
import Derived.RangeFuncBound
import Derived.RangeFuncLeaves
import Derived.Shelf.Abstract
import Derived.OwnWalkIn
import Derived.TacticsInMore
import Derived.LoopNIn
import Derived.LoopIn
import Derived.OrdersIn
import Derived.Test.YtbccaioahifloabQAlmsK
import Derived.Test.YtbccaioahifloabQRws
namespace Go.Proofs.Ytbccaioahifloab.Rnd
open Go.RowKit Go.Proofs.Ytbccaioahifloab.Over
set_option linter.unusedVariables false

section
variable {P : Program} {ops : Array Oper} {Q : Exit → Act → World → Prop} {md : Region.Mode} {l n : Nat}
end

end Go.Proofs.Ytbccaioahifloab.Rnd
namespace Go.Proofs.Ytbccaioahifloab.Plc
open Go.RowKit Go.Shelf
open Go.Proofs.Ytbccaioahifloab.Labs Go.Proofs.Ytbccaioahifloab.LabS Go.Proofs.Ytbccaioahifloab.Alms Go.Proofs.Ytbccaioahifloab.Over Go.Proofs.Ytbccaioahifloab.Blk Go.Proofs.Ytbccaioahifloab.Rnd
set_option linter.unusedVariables false
attribute [local go_sem] Oper.semAt_some

/-- what the iterator hands to a round -/
def enc (P : List PAl) (ad : Nat → Option Addr) (cp : Nat → Nat) (x : Fin P.length) : Array Value := #[.int .i64 (x.1 : Int), .agg #[.slice (ad x.1) (nthP P x.1).l.length (cp x.1), .int .i64 (nthP P x.1).s, .int .i64 (nthP P x.1).e, .string (nthP P x.1).n]]
end Go.Proofs.Ytbccaioahifloab.Plc
namespace Go.Proofs.Ytbccaioahifloab.Lop
open Go.RowKit
open Go.Proofs.Ytbccaioahifloab.Labs Go.Proofs.Ytbccaioahifloab.LabS Go.Proofs.Ytbccaioahifloab.Alms Go.Proofs.Ytbccaioahifloab.Over Go.Proofs.Ytbccaioahifloab.Blk Go.Proofs.Ytbccaioahifloab.Rnd Go.Proofs.Ytbccaioahifloab.Plc Go.Proofs.Ytbccaioahifloab.App
set_option linter.unusedVariables false

/-- a step of the loop's own book-keeping: what is cells lies as it lay -/
def Turn (B : Nat) (W W' : World) : Prop := ∃ row, W.grownBy W' row ∧ ∀ r, row = some r → B ≤ r ∧ ∃ o : Obj, W.heap[r]? = some o ∧ o.isCells = false
theorem Turn.blk {B : Nat} {W W' : World} {M : Nat} {cs : Array Value} {T : TypeId} (ht : Turn B W W') (h : Blk W M cs T) : Blk W' M cs T := by
  obtain ⟨row, hg, hr⟩ := ht
  refine blk_far h hg fun e => ?_
  obtain ⟨_, o, ho, hc⟩ := hr M e.symm
  unfold Blk at h
  rw [h] at ho
  cases ho
  cases hc
theorem Turn.below {B n₀ : Nat} {w W W' : World} (ht : Turn B W W') (hn : n₀ ≤ w.heap.size) (hB : n₀ ≤ B) (h : Below n₀ w W) : Below n₀ w W' := by
  obtain ⟨row, hg, hr⟩ := ht
  exact h.grown hg (Nat.le_trans hn h.size) fun k e => Nat.le_trans hB (hr k e).1
end Go.Proofs.Ytbccaioahifloab.Lop
namespace Go.Proofs.Ytbccaioahifloab.ChnI
open Go.RowKit
open Go.Proofs.Ytbccaioahifloab.Labs Go.Proofs.Ytbccaioahifloab.LabS Go.Proofs.Ytbccaioahifloab.Alms Go.Proofs.Ytbccaioahifloab.Over Go.Proofs.Ytbccaioahifloab.Blk Go.Proofs.Ytbccaioahifloab.Rnd Go.Proofs.Ytbccaioahifloab.Plc Go.Proofs.Ytbccaioahifloab.Lop Go.Proofs.Ytbccaioahifloab.App Go.Proofs.Ytbccaioahifloab.Rws
set_option linter.unusedVariables false
attribute [local go_sem] Oper.semAt_some

theorem set_low {B M : Nat} {w w' : World} (h : Below B w w') (hM : B ≤ M) (i : Nat) (v : Value) : Below B w (w'.setCell ⟨M, i, none⟩ v) := h.setCell (p := ⟨M, i, none⟩) hM v
theorem retI {a b : Int} (h : a = b) : Ending.returned (.int .i64 a) = .returned (.int .i64 b) := by rw [h]
end Go.Proofs.Ytbccaioahifloab.ChnI
