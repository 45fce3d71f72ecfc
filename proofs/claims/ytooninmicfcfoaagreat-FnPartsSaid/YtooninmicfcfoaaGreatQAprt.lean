/-
  What is as it was but for one block.
-/
import Derived.Test.YtooninmicfcfoaaGreatQBlk
set_option linter.unusedVariables false
namespace Go.Proofs.YtooninmicfcfoaaGreat.Mark
open Go.RowKit
open Over Blk

structure Apart (M : Nat) (w w' : World) : Prop where
  os : w'.os = w.os
  tape : w'.tape = w.tape
  output : w'.output = w.output
  size : w.heap.size ≤ w'.heap.size
  block : ∀ k, k < w.heap.size → k ≠ M → w'.heap[k]? = w.heap[k]?
end Go.Proofs.YtooninmicfcfoaaGreat.Mark
