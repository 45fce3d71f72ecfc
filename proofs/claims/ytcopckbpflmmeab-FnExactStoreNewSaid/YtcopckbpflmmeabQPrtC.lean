/-
  PROVED: over a part in memory spec.PartOk and impl.PartOk answer alike, as a plain function on lists of chains says; nothing that was there is changed.
  PROVED: over a part in memory spec.l7At finds the first chain of a number, and spec.FindIn gives a copy of the first alarm of the labels in it, as plain functions on lists of chains say; nothing that was there is changed.
  PROVED: spec.l7Copy gives a part of the same chains in memory of its own; what an alarm that is put into a part makes of its chains, on plain lists; nothing that was there is changed.
-/
import Derived.Test.YtcopckbpflmmeabQPrt
set_option linter.unusedVariables false
namespace Go.Proofs.Ytcopckbpflmmeab.PrtO
open Go.RowKit
open Labs LabS Alms AlmS AlmM Over Blk App Rws ChnI ChnC ChnP ChnO ChnS ChnK Chs Prt
open StrB (retB)
open Sums (partB)
open Alm (at_par)

end Go.Proofs.Ytcopckbpflmmeab.PrtO
namespace Go.Proofs.Ytcopckbpflmmeab.PrtF
open Go.RowKit
open Labs LabS Alms AlmS AlmM Over Blk App Rws ChnI ChnC ChnP ChnS ChnK Chs Prt PrtO
open Fing (fingerB)
open Alm (at_par)

end Go.Proofs.Ytcopckbpflmmeab.PrtF
namespace Go.Proofs.Ytcopckbpflmmeab.PrtC
open Go.RowKit
open Labs LabS Alms AlmM Over Blk App Rws ChnI ChnC ChnP ChnU ChnK Chs Prt PrtO PrtF
open Fing (fingerB)

structure MidC (w : World) (hd vr : Int) (a : Option Addr) (n cap : Nat) (W : World) (M c : Nat) (cs : List CRow) : Prop where
  part : Blk W w.heap.size #[.int .i64 hd, .int .i64 vr, .slice a n cap] 28
  res : Blk W (w.heap.size + 1) #[.int .i64 0, .int .i64 0, .slice none 0 0] 28
  out : Blk W (w.heap.size + 3) #[.int .i64 hd, .int .i64 vr, .slice (some ⟨M, 0, none⟩) cs.length c] 28
  left : CB (w.heap.size + 2) W M c cs
  low : Below w.heap.size w W
  size : w.heap.size + 4 ≤ W.heap.size
theorem MidC.grow {w : World} {hd vr : Int} {a : Option Addr} {n cap : Nat} {W W' : World} {M c : Nat} {cs : List CRow} (h : MidC w hd vr a n cap W M c cs) (hb : Below W.heap.size W W') : MidC w hd vr a n cap W' M c cs :=
  ⟨h.part.grow hb, h.res.grow hb, h.out.grow hb, h.left.grow hb, grow_on h.low hb, Nat.le_trans h.size hb.size⟩
end Go.Proofs.Ytcopckbpflmmeab.PrtC
