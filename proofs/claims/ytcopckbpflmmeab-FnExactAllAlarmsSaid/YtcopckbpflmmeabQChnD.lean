/-
  PROVED: over a chain and an alarm in memory impl.PutChain answers as a plain function on lists says, in memory of its own; nothing that was there is changed.
  PROVED: over a chain in memory impl.DropOver answers as two plain functions on lists say, in memory of its own; nothing that was there is changed.
-/
import Derived.Test.YtcopckbpflmmeabQChnC
set_option linter.unusedVariables false
namespace Go.Proofs.Ytcopckbpflmmeab.ChnP
open Go.RowKit
open Labs LabS Alms AlmM Over Blk App Rws ChnI ChnC

theorem chain_alarm {w : World} {a b : Nat} {cs ds : Array Value} (h : Blk w a cs 52) (k : Blk w b ds 68) : a ≠ b := fun e => by
  subst e
  unfold Blk at h k
  rw [h] at k
  injection k with k
  injection k with _ k
  exact absurd k (by decide)
theorem chain_label {w : World} {a b : Nat} {cs ds : Array Value} (h : Blk w a cs 52) (k : Blk w b ds 94) : a ≠ b := fun e => by
  subst e
  exact blkC_ne h k
theorem ab_set2 {lo : Nat} {w : World} {M c N : Nat} {rs : List ARow} {cs : Array Value} (h : AB lo w M c rs) (hN : Blk w N cs 52) (v0 v1 : Value) : AB lo ((w.setCell ⟨N, 0, none⟩ v0).setCell ⟨N, 1, none⟩ v1) M c rs :=
  ab_moved h (fun k => (k.set_other (chain_alarm hN k) _).set_other (chain_alarm hN k) _) (fun k => (k.set_other (chain_label hN k) _).set_other (chain_label hN k) _)
theorem ab_set1 {lo : Nat} {w : World} {M c N : Nat} {rs : List ARow} {cs : Array Value} (h : AB lo w M c rs) (hN : Blk w N cs 52) (i : Nat) (v : Value) : AB lo (w.setCell ⟨N, i, none⟩ v) M c rs :=
  ab_moved h (fun k => k.set_other (chain_alarm hN k) _) (fun k => k.set_other (chain_label hN k) _)
end Go.Proofs.Ytcopckbpflmmeab.ChnP
namespace Go.Proofs.Ytcopckbpflmmeab.ChnD
open Go.RowKit
open Labs LabS Alms AlmS AlmM Over Blk Rnd Plc Lop App Rws ChnI ChnC ChnP
attribute [local go_sem] Oper.semAt_some

end Go.Proofs.Ytcopckbpflmmeab.ChnD
