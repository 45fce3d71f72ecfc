/-
  PROVED: a region that draws its order, inside a round of a range over a function: what holds of every order outside a round holds inside one.
-/
import Derived.Test.YtcopckbpflmmeaaOver
import Derived.Deep.RegionHeld3
import Derived.RangeFuncNested
import Derived.RangeFuncBound
import Derived.RangeFuncLeaves
import Derived.Shelf.Abstract
import Derived.OwnWalkIn
import Derived.TacticsInMore
import Derived.LoopNIn
import Derived.LoopIn
import Derived.OrdersIn
namespace Go.Proofs.Ytcopckbpflmmeaa.Rnd
open Go.RowKit Go.Proofs.Ytcopckbpflmmeaa.Over
set_option linter.unusedVariables false

/-- an operation that defers no call -/
def calmO (o : Oper) : Bool :=
  match o.op with
  | .defer _ => false
  | _ => true
def calm (ops : Array Oper) : Bool := ops.toList.all calmO
theorem calm_at {ops : Array Oper} (h : calm ops = true) {i : Nat} {o : Oper} (hi : ops[i]? = some o) : ∀ c, o.op ≠ .defer c := fun c e => by
  have h1 := List.all_eq_true.1 h o (by simpa using Array.mem_of_getElem? hi)
  unfold calmO at h1
  rw [e] at h1
  cases h1
theorem rows_in {n l : Nat} {P : Program} {row : String} {args : Array Value} {w : World} {R : Value → World → Prop} (h : Rows P row args w R) : RowsIn (Fence.wide.inRound l) n P row args w R := fun c cs _ => by
  obtain ⟨v, w', hr, hs⟩ := h c cs
  exact ⟨v, w', hr, stepsIn_wide.2 hs⟩
theorem calls_in {n l : Nat} {P : Program} {f : FuncId} {args : Array Value} {w : World} {R : Ending → World → Prop} (h : Calls P f args w R) : CallsIn (Fence.wide.inRound l) n P f args w R :=
  CallsIn.inRound l (callsIn_wide.2 h)

section
variable {P : Program} {ops : Array Oper} {Q : Exit → Act → World → Prop} {md : Region.Mode} {l n : Nat}
theorem oper_in {o : Oper} {K K' : Act → World → Prop} {a : Act} {w : World} (hc : ∀ c, o.op ≠ .defer c) (hK : ∀ a w, K a w → K' a w) (h : o.wp P a w K Q) : o.wpIn (Fence.wide.inRound l) n P a w K' Q := by
  refine ⟨fun _ _ => trivial, ?_⟩
  show o.uponIn _ _ _ _ _ _ ((o.semAt (some l) a.eval).run P w)
  rw [Oper.semAt_some l a.eval o hc]
  unfold Oper.wp at h
  generalize (execOp a.eval o).run P w = r at *
  cases r with
  | ok x w' =>
    cases x with
    | value v => exact hK _ _ h
    | skip => exact hK _ _ h
    | defer d => exact hK _ _ h
    | enter f args =>
      refine ⟨fun e => (by cases e), calls_in (Calls.mono h fun e w'' he => ?_)⟩
      cases e with
      | returned v => exact hK _ _ he
      | panicked c => exact he
      | outgrown => exact he
    | row row args => exact ⟨fun e => (by cases e), rows_in (Rows.mono h fun v w'' he => hK _ _ he)⟩
    | round l f tmps assign body => exact h.elim
    | _ => exact h
  | halt x w' =>
    cases x with
    | panic v => exact h
    | _ => exact h
theorem op_in {i : Nat} {K K' : Act → World → Prop} {a : Act} {w : World} (hq : ¬ LetsOut Q) (hc : calm ops = true) (hK : ∀ a w, K a w → K' a w) (h : wpOp P ops Q i K a w) : wpOpIn (Fence.wide.inRound l) n P ops Q i K' a w := by
  unfold wpOp at h
  unfold wpOpIn
  split
  · rename_i hi
    simp only [hi] at h
    exact hK _ _ h
  · rename_i o hi
    simp only [hi] at h
    split
    · rename_i hw
      simp only [hw, if_true] at h
      rcases h with h | h
      · exact oper_in (calm_at hc hi) hK h
      · exact absurd h.2 hq
    · rename_i hw
      simp only [hw] at h
      exact ⟨fun _ _ => trivial, hK _ _ h⟩
theorem any_in (hq : ¬ LetsOut Q) (hc : calm ops = true) : ∀ (fuel : Nat) (listed : Array Bool) (a : Act) (w : World), wpAny P md ops Q fuel listed a w → wpAnyIn (Fence.wide.inRound l) n P md ops Q fuel listed a w
  | 0, _, _, _, h => h
  | fuel + 1, _, _, _, h => ⟨h.1, fun i hi => op_in hq hc (fun a w h => any_in hq hc fuel _ a w h) (h.2 i hi)⟩

/-- op by op -/
theorem held_in {S : World → Prop} {id : Nat} {a : Act} {w : World} (hm : P.follows .mixedOrders = true) (hc : calm ops = true) (hq : ¬ LetsOut Q) (hS : S w.drew)
    (h : S w.drew → wpAnyH P .any ops Q S ops.size (Array.replicate ops.size false) a w.drew) : (Code.region id ops true).wpIn (Fence.wide.inRound l) n P Q a w :=
  wpIn_region_any hm (any_in hq hc _ _ _ _ (wpAny_of_held _ _ _ _ (h hS)))
/-- a region that reads alone, its callees laying new memory at most -/
theorem over_in {os : List Oper} {id : Nat} {a : Act} {w z : World} (hm : P.follows .mixedOrders = true) (hB : Region.lexB .any os.toArray = true) (hc : calm os.toArray = true) (hq : ¬ LetsOut Q) (hz : Below z.heap.size z w)
    (h : wpQuiet P os.toArray (fun w' => ∃ x : Grown z, w' = x.out) (fun a' => ∀ w', (∃ x : Grown z, w' = x.out) → Q .normal a' w') os a) : (Code.region id os.toArray true).wpIn (Fence.wide.inRound l) n P Q a w := by
  simp only [Region.lexB, Bool.and_eq_true] at hB
  refine wpIn_region_any hm (any_in hq hc _ _ _ _ (wpAny_of_quiet (C := fun w' => ∃ x : Grown z, w' = x.out) (Q := fun a' => ∀ w', (∃ x : Grown z, w' = x.out) → Q .normal a' w') (fun _ w' hw' h => h w' hw') _ _ _ _ ⟨⟨_, hz.drew⟩, rfl⟩ ?_))
  have := wpAnyQ_lex (P := P) (C := fun w' => ∃ x : Grown z, w' = x.out) (md := .any) hB.1 os 0 (Array.replicate os.toArray.size false) a (by simp) (by simpa using hB.2) h
  simpa using this
end

/-- what grew kept all that is no cells -/
theorem keeps_of {B : Nat} {W W' : World} (h : Below W.heap.size W W') : KeepsFrom B W W' :=
  ⟨h.size, fun k o _ hk _ => (h.block k (Array.getElem?_eq_some_iff.1 hk).1).trans hk⟩
end Go.Proofs.Ytcopckbpflmmeaa.Rnd
