/-
  A region that draws its order, whose own operations only read and whose callees leave alone what was there but may lay new memory: one walk in the text's order serves every order, in the class of the worlds that have grown out of one.
-/
import Derived.Test.YtgncimlojbnbfaaGreatRows
import Derived.WalkKit
import Derived.WalkLawsBesides
import Derived.WalkSpells
import Derived.Deep.QuietTactic
import Derived.BigQuiet
import Derived.Below
set_option linter.unusedVariables false
namespace Go.Proofs.YtgncimlojbnbfaaGreat.Over
open Go.RowKit

structure Grown (z : World) where
  world : World
  below : Below z.heap.size z world
def Grown.out {z : World} (x : Grown z) : World := x.world
theorem Grown.cell {z : World} (x : Grown z) {p : Addr} {v : Value} (hp : p.block < z.heap.size) (h : z.cell? p = some v) : x.out.cell? p = some v := (x.below.cell hp).trans h
theorem Grown.some (z : World) : Nonempty (Grown z) := ⟨⟨z, Below.refl _ _⟩⟩
theorem Grown.bel {z : World} (x : Grown z) : Below z.heap.size z x.out := x.below

theorem grow_on {z a b : World} (h : Below z.heap.size z a) (k : Below a.heap.size a b) : Below z.heap.size z b := h.trans (k.mono h.size)
theorem bel_drewN {B : Nat} {a w : World} (h : Below B a w) (n : Nat) : Below B a (w.drewN n) := ⟨h.os, h.tape, h.output, h.size, h.block⟩
theorem bel_same {w w' : World} (h : w' = w) : Below w.heap.size w w' := by subst h; exact Below.refl _ _
theorem bel_drew {w w' : World} (h : ∃ n, w' = w.drewN n) : Below w.heap.size w w' := by obtain ⟨n, rfl⟩ := h; exact bel_drewN (Below.refl _ _) n

theorem wp_over {P : Program} {id : Nat} {Q : Exit → Act → World → Prop} {a : Act} {w z : World} {l : List Oper} (hm : P.follows .mixedOrders = true) (hB : Region.lexB .any l.toArray = true) (hz : Below z.heap.size z w)
    (h : wpQuiet P l.toArray (fun w' => ∃ x : Grown z, w' = x.out) (fun a' => ∀ w', (∃ x : Grown z, w' = x.out) → Q .normal a' w') l a) : (Code.region id l.toArray true).wp P Q a w :=
  wp_region_quiet (C := fun w' => ∃ x : Grown z, w' = x.out) hm hB ⟨⟨_, hz.drew⟩, rfl⟩ (by simpa using h)

theorem over_bel {z w : World} (h : ∃ x : Grown z, w = x.out) : Below z.heap.size z w := by obtain ⟨x, rfl⟩ := h; exact x.below
theorem call_over {P : Program} {f : FuncId} {args : Array Value} {z : World} {x : Grown z} {v : Value}
    (h : Calls P f args x.out fun e w' => e = .returned v ∧ Below x.out.heap.size x.out w') : Calls P f args x.out fun e w' => e = .returned v ∧ ∃ y : Grown z, w' = y.out :=
  h.mono fun _ w' ⟨he, hb⟩ => ⟨he, ⟨w', grow_on x.below hb⟩, rfl⟩
theorem call_still {P : Program} {f : FuncId} {args : Array Value} {z : World} {x : Grown z} {v : Value}
    (h : Calls P f args x.out fun e w' => e = .returned v ∧ w' = x.out) : Calls P f args x.out fun e w' => e = .returned v ∧ ∃ y : Grown z, w' = y.out :=
  call_over (h.mono fun _ _ ⟨he, hw⟩ => ⟨he, bel_same hw⟩)
theorem calls_drew {P : Program} {f : FuncId} {args : Array Value} {w : World} {X : Ending} (h : Calls P f args w fun e w' => e = X ∧ ∃ n, w' = w.drewN n) : Calls P f args w fun e w' => e = X ∧ Below w.heap.size w w' :=
  h.mono fun _ _ h => ⟨h.1, bel_drew h.2⟩
end Go.Proofs.YtgncimlojbnbfaaGreat.Over
