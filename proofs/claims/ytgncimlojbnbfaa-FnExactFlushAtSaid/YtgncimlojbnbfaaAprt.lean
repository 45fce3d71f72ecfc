/-
  What is as it was but for one block.
-/
import Derived.Test.YtgncimlojbnbfaaBlk
namespace Go.Proofs.Ytgncimlojbnbfaa.Mark
open Go.RowKit
open Go.Proofs.Ytgncimlojbnbfaa.Over Go.Proofs.Ytgncimlojbnbfaa.Blk
set_option linter.unusedVariables false

/-- what was there is as it was, but for block M -/
structure Apart (M : Nat) (w w' : World) : Prop where
  os : w'.os = w.os
  tape : w'.tape = w.tape
  output : w'.output = w.output
  size : w.heap.size ≤ w'.heap.size
  block : ∀ k, k < w.heap.size → k ≠ M → w'.heap[k]? = w.heap[k]?
theorem Apart.refl (M : Nat) (w : World) : Apart M w w := ⟨rfl, rfl, rfl, Nat.le_refl _, fun _ _ _ => rfl⟩
theorem Apart.trans {M : Nat} {a b c : World} (h : Apart M a b) (k : Apart M b c) : Apart M a c :=
  ⟨k.os.trans h.os, k.tape.trans h.tape, k.output.trans h.output, Nat.le_trans h.size k.size, fun i hi hM => (k.block i (Nat.lt_of_lt_of_le hi h.size) hM).trans (h.block i hi hM)⟩
theorem Apart.of {M : Nat} {w w' : World} (h : Below w.heap.size w w') : Apart M w w' := ⟨h.os, h.tape, h.output, h.size, fun k hk _ => h.block k hk⟩
theorem Apart.below {M : Nat} {a b c : World} (h : Apart M a b) (k : Below b.heap.size b c) : Apart M a c := h.trans (Apart.of k)
theorem Apart.setCell {M : Nat} {a w : World} (h : Apart M a w) (i : Nat) (v : Value) : Apart M a (w.setCell ⟨M, i, none⟩ v) :=
  h.trans ⟨rfl, rfl, rfl, by simp [World.setCell], fun k _ hM => Below.heap_setCell _ _ _ _ hM⟩
theorem Apart.low {M B : Nat} {w w' : World} (h : Apart M w w') (hB : B ≤ M) (hw : B ≤ w.heap.size) : Below B w w' :=
  ⟨h.os, h.tape, h.output, h.size, fun k hk => h.block k (by omega) (by omega)⟩
theorem Apart.blk {M N : Nat} {w w' : World} {cs : Array Value} {T : TypeId} (h : Apart M w w') (hb : Blk w N cs T) (hn : N ≠ M) : Blk w' N cs T := by
  have hlt := hb.lt
  unfold Blk at *
  rw [h.block N hlt hn]; exact hb
end Go.Proofs.Ytgncimlojbnbfaa.Mark
