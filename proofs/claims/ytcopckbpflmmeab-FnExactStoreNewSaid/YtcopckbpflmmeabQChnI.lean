/-
  PROVED: a region that draws its order, inside a round of a range over a function: what holds of every order outside a round holds inside one.
  PROVED: impl.places hands out an iterator that goes through a chain's alarms from the first to the last, each with its place, for every loop body that keeps what lay ahead.
  PROVED: a loop over a chain's places, as one law: what each round must keep, and what stands behind the loop.
  PROVED: over a chain and labels in memory impl.InChain answers as a plain function on lists says; nothing that was there is changed.
-/
import Derived.Test.YtcopckbpflmmeabQOver
import Derived.Deep.RegionHeld3
import Derived.RangeFuncNested
import Derived.RangeFuncBound
import Derived.RangeFuncLeaves
import Derived.Shelf.Abstract
import Derived.OwnWalkIn
import Derived.TacticsInMore
import Derived.LoopNIn
import Derived.LoopIn
import Derived.OrdersIn
import Derived.Test.YtcopckbpflmmeabQAlmsK
import Derived.Test.YtcopckbpflmmeabQLst
set_option linter.unusedVariables false
namespace Go.Proofs.Ytcopckbpflmmeab.Rnd
open Go.RowKit Over

section
variable {P : Program} {ops : Array Oper} {Q : Exit → Act → World → Prop} {md : Region.Mode} {l n : Nat}
end

end Go.Proofs.Ytcopckbpflmmeab.Rnd
namespace Go.Proofs.Ytcopckbpflmmeab.Plc
open Go.RowKit Go.Shelf
open Labs LabS Alms Over Blk Rnd
attribute [local go_sem] Oper.semAt_some

def enc (P : List PAl) (ad : Nat → Option Addr) (cp : Nat → Nat) (x : Fin P.length) : Array Value := #[.int .i64 (x.1 : Int), .agg #[.slice (ad x.1) (nthP P x.1).l.length (cp x.1), .int .i64 (nthP P x.1).s, .int .i64 (nthP P x.1).e, .string (nthP P x.1).n]]
end Go.Proofs.Ytcopckbpflmmeab.Plc
namespace Go.Proofs.Ytcopckbpflmmeab.Lop
open Go.RowKit
open Labs LabS Alms Over Blk Rnd Plc App

def Turn (B : Nat) (W W' : World) : Prop := ∃ row, W.grownBy W' row ∧ ∀ r, row = some r → B ≤ r ∧ ∃ o : Obj, W.heap[r]? = some o ∧ o.isCells = false
theorem Turn.blk {B : Nat} {W W' : World} {M : Nat} {cs : Array Value} {T : TypeId} (ht : Turn B W W') (h : Blk W M cs T) : Blk W' M cs T := by
  obtain ⟨row, hg, hr⟩ := ht
  refine blk_far h hg fun e => ?_
  obtain ⟨_, o, ho, hc⟩ := hr M e.symm
  unfold Blk at h
  rw [h] at ho
  cases ho
  cases hc
theorem Turn.below {B n₀ : Nat} {w W W' : World} (ht : Turn B W W') (hn : n₀ ≤ w.heap.size) (hB : n₀ ≤ B) (h : Below n₀ w W) : Below n₀ w W' := by
  obtain ⟨row, hg, hr⟩ := ht
  exact h.grown hg (Nat.le_trans hn h.size) fun k e => Nat.le_trans hB (hr k e).1
theorem Turn.size {B : Nat} {W W' : World} (ht : Turn B W W') : W.heap.size ≤ W'.heap.size := by
  obtain ⟨row, hg, _⟩ := ht
  exact hg.size
theorem Turn.own {B b0 : Nat} {W W' : World} {e : TypeId} {size n : Nat} {v : Value} {xs : List Value} (ht : Turn B W W') (h : W.ownsRow b0 e size v n xs) : W'.ownsRow b0 e size v n xs := by
  obtain ⟨row, hg, hr⟩ := ht
  refine h.kept hg ?_
  rcases h.2 with ⟨rfl, _⟩ | ⟨g, cap, cur, rfl, _, hgb, _⟩
  · exact .inl rfl
  · refine .inr fun e' => ?_
    obtain ⟨_, o, ho, hc⟩ := hr g (by simpa [Value.ownBlock] using e'.symm)
    rw [hgb] at ho
    cases ho
    cases hc
end Go.Proofs.Ytcopckbpflmmeab.Lop
namespace Go.Proofs.Ytcopckbpflmmeab.ChnI
open Go.RowKit
open Labs LabS Alms Over Blk Rnd Plc Lop App Rws
attribute [local go_sem] Oper.semAt_some

end Go.Proofs.Ytcopckbpflmmeab.ChnI
