/-
  PROVED: the contracts of the draws of alarms that FnMerges and FnAlarms begin with: alarms with a few small labels in memory of their own; nothing that was there is changed.
-/
import Derived.Test.YtcopckbpflmmeaaDrawA
import Derived.Test.YtcopckbpflmmeaaLawB
namespace Go.Proofs.Ytcopckbpflmmeaa.DrawB
open Go.RowKit
open Go.Proofs.Ytcopckbpflmmeaa.Draw
open Go.Proofs.Ytcopckbpflmmeaa.Labs Go.Proofs.Ytcopckbpflmmeaa.LabS Go.Proofs.Ytcopckbpflmmeaa.LabR Go.Proofs.Ytcopckbpflmmeaa.Over Go.Proofs.Ytcopckbpflmmeaa.Blk Go.Proofs.Ytcopckbpflmmeaa.App Go.Proofs.Ytcopckbpflmmeaa.DrawL Go.Proofs.Ytcopckbpflmmeaa.DrawT Go.Proofs.Ytcopckbpflmmeaa.Alm Go.Proofs.Ytcopckbpflmmeaa.AlmM Go.Proofs.Ytcopckbpflmmeaa.DrawA
open Go.Proofs.Ytcopckbpflmmeaa.LabT (infoL Held held_reads)
set_option linter.unusedVariables false

/-- an alarm that was drawn -/
structure Drawn (w : World) (g : Nat) (p : List Lab) (s e : Int) (n : ByteArray) : Prop where
  reads : Reads w (some ⟨g, 0, none⟩) p
  few : p.length ≤ 8
  small : Small p
  sb : I64 s
  eb : I64 e
  note : n.size ≤ 100
theorem Drawn.below {w w' : World} {g : Nat} {p : List Lab} {s e : Int} {n : ByteArray} (h : Drawn w g p s e n) (hb : Below w.heap.size w w') : Drawn w' g p s e n :=
  ⟨h.reads.below hb, h.few, h.small, h.sb, h.eb, h.note⟩
theorem Drawn.al {w : World} {g : Nat} {p : List Lab} {s e : Int} {n : ByteArray} (h : Drawn w g p s e n) : AlIn w (some ⟨g, 0, none⟩) p s e n :=
  ⟨h.reads, by have := h.few; unfold maxLen; omega, small_fits h.small, h.sb, h.eb, by have := h.note; unfold maxLen; omega⟩
theorem Drawn.len {w : World} {g : Nat} {p : List Lab} {s e : Int} {n : ByteArray} (h : Drawn w g p s e n) : p.length ≤ maxLen := h.al.len
theorem Drawn.mid {w : World} {g : Nat} {p : List Lab} {s e : Int} {n : ByteArray} (h : Drawn w g p s e n) : p.length ≤ 1048576 := by have := h.few; omega

theorem cells4 {w : World} {M : Nat} {v0 v1 v2 v3 : Value} {T : TypeId} (h : Blk w M #[v0, v1, v2, v3] T) : w.cell? ⟨M, 0, none⟩ = some v0 ∧ w.cell? ⟨M, 1, none⟩ = some v1 ∧ w.cell? ⟨M, 2, none⟩ = some v2 ∧ w.cell? ⟨M, 3, none⟩ = some v3 := ⟨h.cell 0, h.cell 1, h.cell 2, h.cell 3⟩
theorem kept_drew {c : Nat} {w w' : World} (h : Kept c w.drew w') : Kept c w w' := ⟨h.os, h.tape, h.output, h.size, h.block⟩
theorem drawn_set4 {w : World} {M g : Nat} {p : List Lab} {s e : Int} {n : ByteArray} (h : Drawn w g p s e n) (hne : g ≠ M) (v0 v1 v2 v3 : Value) : Drawn ((((w.setCell ⟨M, 0, none⟩ v0).setCell ⟨M, 1, none⟩ v1).setCell ⟨M, 2, none⟩ v2).setCell ⟨M, 3, none⟩ v3) g p s e n :=
  ⟨reads_set4 h.reads hne _ _ _ _, h.few, h.small, h.sb, h.eb, h.note⟩
theorem drawn_kept {c : Nat} {w w' : World} {g : Nat} {p : List Lab} {s e : Int} {n : ByteArray} (h : Drawn w g p s e n) (hk : Kept c w w') (hne : g ≠ c) : Drawn w' g p s e n :=
  ⟨reads_kept h.reads hk hne, h.few, h.small, h.sb, h.eb, h.note⟩
theorem row5 {w : World} {c : Nat} {e y : Int} {T : TypeId} (he : I64 e) (hy : I64 y) (hc : c < w.heap.size) : Row isInt (w.alloc (.cells #[.int .i64 e, .int .i64 y, .int .i64 0, .int .i64 10, .int .i64 (-1)] T)).drew ⟨w.heap.size, 0, none⟩ 5 c := by
  have h : (#[Value.int .i64 e, .int .i64 y, .int .i64 0, .int .i64 10, .int .i64 (-1)] : Array Value).toList.all isInt = true := by
    unfold I64 at he hy
    simp [isInt, he.1, he.2, hy.1, hy.2]
  exact row_lit (w := w) h rfl hc
end Go.Proofs.Ytcopckbpflmmeaa.DrawB
