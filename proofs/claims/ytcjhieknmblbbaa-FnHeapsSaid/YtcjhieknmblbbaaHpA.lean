/-
  The program's heap in memory: a variable that holds a row of timers of the call's own; what is as it was but for that variable and that row.
-/
import Derived.Test.YtcjhieknmblbbaaHpS
namespace Go.Proofs.Ytcjhieknmblbbaa.HpA
open Go.RowKit
open Go.Proofs.Ytcjhieknmblbbaa.Hp Go.Proofs.Ytcjhieknmblbbaa.Tms Go.Proofs.Ytcjhieknmblbbaa.TmO Go.Proofs.Ytcjhieknmblbbaa.TmR Go.Proofs.Ytcjhieknmblbbaa.HpS Go.Proofs.Ytcjhieknmblbbaa.Over Go.Proofs.Ytcjhieknmblbbaa.Blk Go.Proofs.Ytcjhieknmblbbaa.App
open Go.Proofs.Ytcjhieknmblbbaa.Mark (Apart)
set_option linter.unusedVariables false
/-- what was there is as it was, but for the blocks B and M -/
structure But (B M : Nat) (w w' : World) : Prop where
  os : w'.os = w.os
  tape : w'.tape = w.tape
  output : w'.output = w.output
  size : w.heap.size ≤ w'.heap.size
  block : ∀ k, k < w.heap.size → k ≠ B → k ≠ M → w'.heap[k]? = w.heap[k]?
theorem But.refl (B M : Nat) (w : World) : But B M w w := ⟨rfl, rfl, rfl, Nat.le_refl _, fun _ _ _ _ => rfl⟩
theorem But.trans {B M : Nat} {a b c : World} (h : But B M a b) (k : But B M b c) : But B M a c :=
  ⟨k.os.trans h.os, k.tape.trans h.tape, k.output.trans h.output, Nat.le_trans h.size k.size, fun i hi hB hM => (k.block i (Nat.lt_of_lt_of_le hi h.size) hB hM).trans (h.block i hi hB hM)⟩
theorem But.of {B M : Nat} {w w' : World} (h : Below w.heap.size w w') : But B M w w' := ⟨h.os, h.tape, h.output, h.size, fun k hk _ _ => h.block k hk⟩
theorem But.apart {B M : Nat} {w w' : World} (h : Apart M w w') : But B M w w' := ⟨h.os, h.tape, h.output, h.size, fun k hk _ hM => h.block k hk hM⟩
theorem But.apartB {B M : Nat} {w w' : World} (h : Apart B w w') : But B M w w' := ⟨h.os, h.tape, h.output, h.size, fun k hk hB _ => h.block k hk hB⟩
theorem But.setVar {B M : Nat} {a w : World} (h : But B M a w) (i : Nat) (v : Value) : But B M a (w.setCell ⟨B, i, none⟩ v) := h.trans (But.apartB ((Apart.refl B w).setCell i v))
theorem But.setRow {B M : Nat} {a w : World} (h : But B M a w) (i : Nat) (v : Value) : But B M a (w.setCell ⟨M, i, none⟩ v) := h.trans (But.apart ((Apart.refl M w).setCell i v))
/-- the row may have moved: then it is new -/
structure Step (B : Nat) (w : World) (M : Nat) (w' : World) (M' : Nat) : Prop where
  but : But B M w w'
  far : M' = M ∨ w.heap.size ≤ M'
theorem Step.refl (B M : Nat) (w : World) : Step B w M w M := ⟨But.refl _ _ _, .inl rfl⟩
theorem Step.trans {B M M1 M2 : Nat} {a b c : World} (h : Step B a M b M1) (k : Step B b M1 c M2) : Step B a M c M2 := by
  refine ⟨⟨k.but.os.trans h.but.os, k.but.tape.trans h.but.tape, k.but.output.trans h.but.output, Nat.le_trans h.but.size k.but.size, fun i hi hB hM => ?_⟩, ?_⟩
  · refine (k.but.block i (Nat.lt_of_lt_of_le hi h.but.size) hB ?_).trans (h.but.block i hi hB hM)
    rcases h.far with e | e
    · rw [e]; exact hM
    · omega
  · have := h.but.size
    rcases k.far with e | e
    · rw [e]; exact h.far
    · exact .inr (by omega)
theorem Step.of {B M : Nat} {w w' : World} (h : Below w.heap.size w w') : Step B w M w' M := ⟨But.of h, .inl rfl⟩
theorem Step.size {B M M' : Nat} {w w' : World} (h : Step B w M w' M') : w.heap.size ≤ w'.heap.size := h.but.size
theorem Step.low {B M M' lo : Nat} {w w' : World} (h : Step B w M w' M') (hB : lo ≤ B) (hM : lo ≤ M) (hw : lo ≤ w.heap.size) : Below lo w w' :=
  ⟨h.but.os, h.but.tape, h.but.output, h.but.size, fun k hk => h.but.block k (by omega) (by omega) (by omega)⟩
theorem Step.blk {B M M' N : Nat} {w w' : World} {cs : Array Value} {T : TypeId} (h : Step B w M w' M') (hb : Blk w N cs T) (hB : N ≠ B) (hM : N ≠ M) : Blk w' N cs T := by
  have hlt := hb.lt
  unfold Blk at *
  rw [h.but.block N hlt hB hM]; exact hb
theorem Step.ne {B M M' N : Nat} {w w' : World} (h : Step B w M w' M') (hN : N < w.heap.size) (hM : N ≠ M) : N ≠ M' := by
  rcases h.far with e | e <;> omega
/-- the variable B holds these timers, which lie in M -/
structure Hq (B : Nat) (w : World) (M c : Nat) (l : List Tm) : Prop where
  var : Blk w B #[.slice (some ⟨M, 0, none⟩) l.length c] 55
  row : OT 0 w M c l
  ne : B ≠ M
theorem Hq.grow {B : Nat} {w w' : World} {M c : Nat} {l : List Tm} (h : Hq B w M c l) (hb : Below w.heap.size w w') : Hq B w' M c l := ⟨h.var.grow hb, h.row.grow hb, h.ne⟩
theorem Hq.cell {B : Nat} {w : World} {M c : Nat} {l : List Tm} (h : Hq B w M c l) : w.cell? ⟨B, 0, none⟩ = some (.slice (some ⟨M, 0, none⟩) l.length c) := h.var.cell 0
/-- the row's own cells were turned, the variable not -/
theorem Hq.apart {B : Nat} {w w' : World} {M c : Nat} {l m : List Tm} (h : Hq B w M c l) (ha : Apart M w w') (ho : OT 0 w' M c m) (hm : m.length = l.length) : Hq B w' M c m :=
  ⟨by rw [hm]; exact ha.blk h.var h.ne, ho, h.ne⟩
end Go.Proofs.Ytcjhieknmblbbaa.HpA
