/-
  PROVED: over a part in memory spec.PartOk and impl.PartOk answer alike, as a plain function on lists of chains says; nothing that was there is changed.
  PROVED: over a part in memory spec.l7At finds the first chain of a number, and spec.FindIn gives a copy of the first alarm of the labels in it, as plain functions on lists of chains say; nothing that was there is changed.
  PROVED: spec.l7Copy gives a part of the same chains in memory of its own; what an alarm that is put into a part makes of its chains, on plain lists; nothing that was there is changed.
-/
import Derived.Test.YtbccaioahifloaaQPrt
namespace Go.Proofs.Ytbccaioahifloaa.PrtO
open Go.RowKit
open Go.Proofs.Ytbccaioahifloaa.Labs Go.Proofs.Ytbccaioahifloaa.LabS Go.Proofs.Ytbccaioahifloaa.Alms Go.Proofs.Ytbccaioahifloaa.AlmS Go.Proofs.Ytbccaioahifloaa.AlmM Go.Proofs.Ytbccaioahifloaa.Over Go.Proofs.Ytbccaioahifloaa.Blk Go.Proofs.Ytbccaioahifloaa.App Go.Proofs.Ytbccaioahifloaa.Rws Go.Proofs.Ytbccaioahifloaa.ChnI Go.Proofs.Ytbccaioahifloaa.ChnC Go.Proofs.Ytbccaioahifloaa.ChnP Go.Proofs.Ytbccaioahifloaa.ChnO Go.Proofs.Ytbccaioahifloaa.ChnS Go.Proofs.Ytbccaioahifloaa.ChnK Go.Proofs.Ytbccaioahifloaa.Chs Go.Proofs.Ytbccaioahifloaa.Prt
open Go.Proofs.Ytbccaioahifloaa.StrB (retB)
open Go.Proofs.Ytbccaioahifloaa.Sums (partB)
open Go.Proofs.Ytbccaioahifloaa.Alm (at_par)
set_option linter.unusedVariables false

end Go.Proofs.Ytbccaioahifloaa.PrtO
namespace Go.Proofs.Ytbccaioahifloaa.PrtF
open Go.RowKit
open Go.Proofs.Ytbccaioahifloaa.Labs Go.Proofs.Ytbccaioahifloaa.LabS Go.Proofs.Ytbccaioahifloaa.Alms Go.Proofs.Ytbccaioahifloaa.AlmS Go.Proofs.Ytbccaioahifloaa.AlmM Go.Proofs.Ytbccaioahifloaa.Over Go.Proofs.Ytbccaioahifloaa.Blk Go.Proofs.Ytbccaioahifloaa.App Go.Proofs.Ytbccaioahifloaa.Rws Go.Proofs.Ytbccaioahifloaa.ChnI Go.Proofs.Ytbccaioahifloaa.ChnC Go.Proofs.Ytbccaioahifloaa.ChnP Go.Proofs.Ytbccaioahifloaa.ChnS Go.Proofs.Ytbccaioahifloaa.ChnK Go.Proofs.Ytbccaioahifloaa.Chs Go.Proofs.Ytbccaioahifloaa.Prt Go.Proofs.Ytbccaioahifloaa.PrtO
open Go.Proofs.Ytbccaioahifloaa.Fing (fingerB)
open Go.Proofs.Ytbccaioahifloaa.Alm (at_par)
set_option linter.unusedVariables false

end Go.Proofs.Ytbccaioahifloaa.PrtF
namespace Go.Proofs.Ytbccaioahifloaa.PrtC
open Go.RowKit
open Go.Proofs.Ytbccaioahifloaa.Labs Go.Proofs.Ytbccaioahifloaa.LabS Go.Proofs.Ytbccaioahifloaa.Alms Go.Proofs.Ytbccaioahifloaa.AlmM Go.Proofs.Ytbccaioahifloaa.Over Go.Proofs.Ytbccaioahifloaa.Blk Go.Proofs.Ytbccaioahifloaa.App Go.Proofs.Ytbccaioahifloaa.Rws Go.Proofs.Ytbccaioahifloaa.ChnI Go.Proofs.Ytbccaioahifloaa.ChnC Go.Proofs.Ytbccaioahifloaa.ChnP Go.Proofs.Ytbccaioahifloaa.ChnU Go.Proofs.Ytbccaioahifloaa.ChnK Go.Proofs.Ytbccaioahifloaa.Chs Go.Proofs.Ytbccaioahifloaa.Prt Go.Proofs.Ytbccaioahifloaa.PrtO Go.Proofs.Ytbccaioahifloaa.PrtF
open Go.Proofs.Ytbccaioahifloaa.Fing (fingerB)
set_option linter.unusedVariables false

/-- the state of l7Copy's loop -/
structure MidC (w : World) (hd vr : Int) (a : Option Addr) (n cap : Nat) (W : World) (M c : Nat) (cs : List CRow) : Prop where
  part : Blk W w.heap.size #[.int .i64 hd, .int .i64 vr, .slice a n cap] 53
  res : Blk W (w.heap.size + 1) #[.int .i64 0, .int .i64 0, .slice none 0 0] 53
  out : Blk W (w.heap.size + 3) #[.int .i64 hd, .int .i64 vr, .slice (some ⟨M, 0, none⟩) cs.length c] 53
  left : CB (w.heap.size + 2) W M c cs
  low : Below w.heap.size w W
  size : w.heap.size + 4 ≤ W.heap.size
theorem MidC.grow {w : World} {hd vr : Int} {a : Option Addr} {n cap : Nat} {W W' : World} {M c : Nat} {cs : List CRow} (h : MidC w hd vr a n cap W M c cs) (hb : Below W.heap.size W W') : MidC w hd vr a n cap W' M c cs :=
  ⟨h.part.grow hb, h.res.grow hb, h.out.grow hb, h.left.grow hb, grow_on h.low hb, Nat.le_trans h.size hb.size⟩
end Go.Proofs.Ytbccaioahifloaa.PrtC
