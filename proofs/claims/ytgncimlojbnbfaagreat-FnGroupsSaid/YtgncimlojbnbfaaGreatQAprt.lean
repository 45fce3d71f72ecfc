/-
  What is as it was but for one block.
-/
import Derived.Test.YtgncimlojbnbfaaGreatQBlk
set_option linter.unusedVariables false
namespace Go.Proofs.YtgncimlojbnbfaaGreat.Mark
open Go.RowKit
open Over Blk

structure Apart (M : Nat) (w w' : World) : Prop where
  os : w'.os = w.os
  tape : w'.tape = w.tape
  output : w'.output = w.output
  size : w.heap.size ≤ w'.heap.size
  block : ∀ k, k < w.heap.size → k ≠ M → w'.heap[k]? = w.heap[k]?
theorem Apart.refl (M : Nat) (w : World) : Apart M w w := ⟨rfl, rfl, rfl, Nat.le_refl _, fun _ _ _ => rfl⟩
theorem Apart.trans {M : Nat} {a b c : World} (h : Apart M a b) (k : Apart M b c) : Apart M a c :=
  ⟨k.os.trans h.os, k.tape.trans h.tape, k.output.trans h.output, Nat.le_trans h.size k.size, fun i hi hM => (k.block i (Nat.lt_of_lt_of_le hi h.size) hM).trans (h.block i hi hM)⟩
theorem Apart.setCell {M : Nat} {a w : World} (h : Apart M a w) (i : Nat) (v : Value) : Apart M a (w.setCell ⟨M, i, none⟩ v) :=
  h.trans ⟨rfl, rfl, rfl, by simp [World.setCell], fun k _ hM => Below.heap_setCell _ _ _ _ hM⟩
end Go.Proofs.YtgncimlojbnbfaaGreat.Mark
