/-
  PROVED: over a chain and an alarm in memory impl.PutChain answers as a plain function on lists says, in memory of its own; nothing that was there is changed.
-/
import Derived.Test.YtcopckbpflmmeabChnC
namespace Go.Proofs.Ytcopckbpflmmeab.ChnP
open Go.RowKit
open Go.Proofs.Ytcopckbpflmmeab.Labs Go.Proofs.Ytcopckbpflmmeab.LabS Go.Proofs.Ytcopckbpflmmeab.Alms Go.Proofs.Ytcopckbpflmmeab.AlmM Go.Proofs.Ytcopckbpflmmeab.Over Go.Proofs.Ytcopckbpflmmeab.Blk Go.Proofs.Ytcopckbpflmmeab.App Go.Proofs.Ytcopckbpflmmeab.Rws Go.Proofs.Ytcopckbpflmmeab.ChnI Go.Proofs.Ytcopckbpflmmeab.ChnC
set_option linter.unusedVariables false

theorem chain_alarm {w : World} {a b : Nat} {cs ds : Array Value} (h : Blk w a cs 52) (k : Blk w b ds 68) : a ≠ b := fun e => by
  subst e
  unfold Blk at h k
  rw [h] at k
  injection k with k
  injection k with _ k
  exact absurd k (by decide)
theorem chain_label {w : World} {a b : Nat} {cs ds : Array Value} (h : Blk w a cs 52) (k : Blk w b ds 94) : a ≠ b := fun e => by
  subst e
  exact blkC_ne h k
/-- a chain's block is written: the rows lie as they lay -/
theorem ab_set2 {lo : Nat} {w : World} {M c N : Nat} {rs : List ARow} {cs : Array Value} (h : AB lo w M c rs) (hN : Blk w N cs 52) (v0 v1 : Value) : AB lo ((w.setCell ⟨N, 0, none⟩ v0).setCell ⟨N, 1, none⟩ v1) M c rs :=
  ab_moved h (fun k => (k.set_other (chain_alarm hN k) _).set_other (chain_alarm hN k) _) (fun k => (k.set_other (chain_label hN k) _).set_other (chain_label hN k) _)
theorem ab_set1 {lo : Nat} {w : World} {M c N : Nat} {rs : List ARow} {cs : Array Value} (h : AB lo w M c rs) (hN : Blk w N cs 52) (i : Nat) (v : Value) : AB lo (w.setCell ⟨N, i, none⟩ v) M c rs :=
  ab_moved h (fun k => k.set_other (chain_alarm hN k) _) (fun k => k.set_other (chain_label hN k) _)
theorem retC {M n n' c : Nat} {f : Int} {b b' : Bool} (h : n = n') (hb : b = b') : Ending.returned (.tuple #[.agg #[.int .i64 f, .slice (some ⟨M, 0, none⟩) n c], .bool b]) = .returned (.tuple #[.agg #[.int .i64 f, .slice (some ⟨M, 0, none⟩) n' c], .bool b']) := by rw [h, hb]
end Go.Proofs.Ytcopckbpflmmeab.ChnP
