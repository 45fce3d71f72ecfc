/-
  PROVED: a region that draws its order, inside a round of a range over a function: what holds of every order outside a round holds inside one.
  PROVED: impl.places hands out an iterator that goes through a chain's alarms from the first to the last, each with its place, for every loop body that keeps what lay ahead.
  PROVED: a loop over a chain's places, as one law: what each round must keep, and what stands behind the loop.
  PROVED: over a chain and labels in memory impl.InChain answers as a plain function on lists says; nothing that was there is changed.
-/
import Derived.Test.YtcopckbpflmmeabQOver
import Derived.Deep.RegionHeld3
import Derived.RangeFuncNested
import Derived.RangeFuncBound
import Derived.RangeFuncLeaves
import Derived.Shelf.Abstract
import Derived.OwnWalkIn
import Derived.TacticsInMore
import Derived.LoopNIn
import Derived.LoopIn
import Derived.OrdersIn
import Derived.Test.YtcopckbpflmmeabQAlmsK
import Derived.Test.YtcopckbpflmmeabQLst
set_option linter.unusedVariables false
namespace Go.Proofs.Ytcopckbpflmmeab.Rnd
open Go.RowKit Over

section
variable {P : Program} {ops : Array Oper} {Q : Exit → Act → World → Prop} {md : Region.Mode} {l n : Nat}
end

end Go.Proofs.Ytcopckbpflmmeab.Rnd
namespace Go.Proofs.Ytcopckbpflmmeab.Plc
open Go.RowKit Go.Shelf
open Labs LabS Alms Over Blk Rnd
attribute [local go_sem] Oper.semAt_some

def enc (P : List PAl) (ad : Nat → Option Addr) (cp : Nat → Nat) (x : Fin P.length) : Array Value := #[.int .i64 (x.1 : Int), .agg #[.slice (ad x.1) (nthP P x.1).l.length (cp x.1), .int .i64 (nthP P x.1).s, .int .i64 (nthP P x.1).e, .string (nthP P x.1).n]]
end Go.Proofs.Ytcopckbpflmmeab.Plc
namespace Go.Proofs.Ytcopckbpflmmeab.Lop
open Go.RowKit
open Labs LabS Alms Over Blk Rnd Plc App

end Go.Proofs.Ytcopckbpflmmeab.Lop
namespace Go.Proofs.Ytcopckbpflmmeab.ChnI
open Go.RowKit
open Labs LabS Alms Over Blk Rnd Plc Lop App Rws
attribute [local go_sem] Oper.semAt_some

end Go.Proofs.Ytcopckbpflmmeab.ChnI
