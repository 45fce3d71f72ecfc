/-
  PROVED: impl.copiedChain gives a chain of the same alarms in memory of its own, each alarm's labels in a block of their own; nothing that was there is changed.
  PROVED: over a chain and an alarm in memory impl.PutChain answers as a plain function on lists says, in memory of its own; nothing that was there is changed.
  PROVED: over a chain in memory impl.DropOver answers as two plain functions on lists say, in memory of its own; nothing that was there is changed.
-/
import Derived.Test.YtbccaioahifloaaQChnI
import Derived.Deep.DeepCutAuto
namespace Go.Proofs.Ytbccaioahifloaa.ChnC
open Go.RowKit
open Go.Proofs.Ytbccaioahifloaa.Labs Go.Proofs.Ytbccaioahifloaa.LabS Go.Proofs.Ytbccaioahifloaa.Alms Go.Proofs.Ytbccaioahifloaa.AlmM Go.Proofs.Ytbccaioahifloaa.Over Go.Proofs.Ytbccaioahifloaa.Blk Go.Proofs.Ytbccaioahifloaa.Rnd Go.Proofs.Ytbccaioahifloaa.Plc Go.Proofs.Ytbccaioahifloaa.Lop Go.Proofs.Ytbccaioahifloaa.App Go.Proofs.Ytbccaioahifloaa.Rws Go.Proofs.Ytbccaioahifloaa.ChnI
set_option linter.unusedVariables false
attribute [local go_sem] Oper.semAt_some

def LenM (P : List PAl) : Prop := ∀ i, i < P.length → (nthP P i).l.length ≤ 1048576
theorem blkC_ne {w : World} {a : Nat} {cs ds : Array Value} (h : Blk w a cs 77) (k : Blk w a ds 67) : False := by
  unfold Blk at h k
  rw [h] at k
  injection k with k
  injection k with _ k
  exact absurd k (by decide)
end Go.Proofs.Ytbccaioahifloaa.ChnC
namespace Go.Proofs.Ytbccaioahifloaa.ChnP
open Go.RowKit
open Go.Proofs.Ytbccaioahifloaa.Labs Go.Proofs.Ytbccaioahifloaa.LabS Go.Proofs.Ytbccaioahifloaa.Alms Go.Proofs.Ytbccaioahifloaa.AlmM Go.Proofs.Ytbccaioahifloaa.Over Go.Proofs.Ytbccaioahifloaa.Blk Go.Proofs.Ytbccaioahifloaa.App Go.Proofs.Ytbccaioahifloaa.Rws Go.Proofs.Ytbccaioahifloaa.ChnI Go.Proofs.Ytbccaioahifloaa.ChnC
set_option linter.unusedVariables false

theorem len_m {P : List PAl} (h : LenM P) : LenP P := fun i hi => by have := h i hi; unfold maxLen; omega
theorem set2 {B M : Nat} {w w' : World} (h : Below B w w') (hM : B ≤ M) (v0 v1 : Value) : Below B w ((w'.setCell ⟨M, 0, none⟩ v0).setCell ⟨M, 1, none⟩ v1) := set_low (set_low h hM 0 v0) hM 1 v1
theorem ab_moved {lo : Nat} {w w' : World} {M c : Nat} {rs : List ARow} (h : AB lo w M c rs) (hA : ∀ {cs : Array Value}, Blk w M cs 40 → Blk w' M cs 40) (hL : ∀ {k : Nat} {cs : Array Value}, Blk w k cs 67 → Blk w' k cs 67) : AB lo w' M c rs := by
  obtain ⟨cur, h1, h2⟩ := h.outer
  exact ⟨h.at', h.cap, ⟨cur, hA h1, h2⟩, fun x hx => by
    obtain ⟨k0, k1, ds, k2, k3⟩ := h.rows x hx
    exact ⟨k0, k1, ds, hL k2, k3⟩, h.ne⟩
theorem chain_alarm {w : World} {a b : Nat} {cs ds : Array Value} (h : Blk w a cs 77) (k : Blk w b ds 40) : a ≠ b := fun e => by
  subst e
  unfold Blk at h k
  rw [h] at k
  injection k with k
  injection k with _ k
  exact absurd k (by decide)
theorem chain_label {w : World} {a b : Nat} {cs ds : Array Value} (h : Blk w a cs 77) (k : Blk w b ds 67) : a ≠ b := fun e => by
  subst e
  exact blkC_ne h k
/-- a chain's block is written: the rows lie as they lay -/
theorem ab_set2 {lo : Nat} {w : World} {M c N : Nat} {rs : List ARow} {cs : Array Value} (h : AB lo w M c rs) (hN : Blk w N cs 77) (v0 v1 : Value) : AB lo ((w.setCell ⟨N, 0, none⟩ v0).setCell ⟨N, 1, none⟩ v1) M c rs :=
  ab_moved h (fun k => (k.set_other (chain_alarm hN k) _).set_other (chain_alarm hN k) _) (fun k => (k.set_other (chain_label hN k) _).set_other (chain_label hN k) _)
theorem ab_set1 {lo : Nat} {w : World} {M c N : Nat} {rs : List ARow} {cs : Array Value} (h : AB lo w M c rs) (hN : Blk w N cs 77) (i : Nat) (v : Value) : AB lo (w.setCell ⟨N, i, none⟩ v) M c rs :=
  ab_moved h (fun k => k.set_other (chain_alarm hN k) _) (fun k => k.set_other (chain_label hN k) _)
end Go.Proofs.Ytbccaioahifloaa.ChnP
namespace Go.Proofs.Ytbccaioahifloaa.ChnD
open Go.RowKit
open Go.Proofs.Ytbccaioahifloaa.Labs Go.Proofs.Ytbccaioahifloaa.LabS Go.Proofs.Ytbccaioahifloaa.Alms Go.Proofs.Ytbccaioahifloaa.AlmS Go.Proofs.Ytbccaioahifloaa.AlmM Go.Proofs.Ytbccaioahifloaa.Over Go.Proofs.Ytbccaioahifloaa.Blk Go.Proofs.Ytbccaioahifloaa.Rnd Go.Proofs.Ytbccaioahifloaa.Plc Go.Proofs.Ytbccaioahifloaa.Lop Go.Proofs.Ytbccaioahifloaa.App Go.Proofs.Ytbccaioahifloaa.Rws Go.Proofs.Ytbccaioahifloaa.ChnI Go.Proofs.Ytbccaioahifloaa.ChnC Go.Proofs.Ytbccaioahifloaa.ChnP
set_option linter.unusedVariables false
attribute [local go_sem] Oper.semAt_some

end Go.Proofs.Ytbccaioahifloaa.ChnD
