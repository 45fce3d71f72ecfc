/-
  PROVED: over a chain and an alarm in memory impl.PutChain answers as a plain function on lists says, in memory of its own; nothing that was there is changed.
  PROVED: over a chain in memory impl.DropOver answers as two plain functions on lists say, in memory of its own; nothing that was there is changed.
-/
import Derived.Test.YtbccaioahifloabQChnC
namespace Go.Proofs.Ytbccaioahifloab.ChnP
open Go.RowKit
open Go.Proofs.Ytbccaioahifloab.Labs Go.Proofs.Ytbccaioahifloab.LabS Go.Proofs.Ytbccaioahifloab.Alms Go.Proofs.Ytbccaioahifloab.AlmM Go.Proofs.Ytbccaioahifloab.Over Go.Proofs.Ytbccaioahifloab.Blk Go.Proofs.Ytbccaioahifloab.App Go.Proofs.Ytbccaioahifloab.Rws Go.Proofs.Ytbccaioahifloab.ChnI Go.Proofs.Ytbccaioahifloab.ChnC
set_option linter.unusedVariables false

theorem set2 {B M : Nat} {w w' : World} (h : Below B w w') (hM : B ≤ M) (v0 v1 : Value) : Below B w ((w'.setCell ⟨M, 0, none⟩ v0).setCell ⟨M, 1, none⟩ v1) := set_low (set_low h hM 0 v0) hM 1 v1
theorem ab_moved {lo : Nat} {w w' : World} {M c : Nat} {rs : List ARow} (h : AB lo w M c rs) (hA : ∀ {cs : Array Value}, Blk w M cs 47 → Blk w' M cs 47) (hL : ∀ {k : Nat} {cs : Array Value}, Blk w k cs 64 → Blk w' k cs 64) : AB lo w' M c rs := by
  obtain ⟨cur, h1, h2⟩ := h.outer
  exact ⟨h.at', h.cap, ⟨cur, hA h1, h2⟩, fun x hx => by
    obtain ⟨k0, k1, ds, k2, k3⟩ := h.rows x hx
    exact ⟨k0, k1, ds, hL k2, k3⟩, h.ne⟩
theorem chain_alarm {w : World} {a b : Nat} {cs ds : Array Value} (h : Blk w a cs 54) (k : Blk w b ds 47) : a ≠ b := fun e => by
  subst e
  unfold Blk at h k
  rw [h] at k
  injection k with k
  injection k with _ k
  exact absurd k (by decide)
theorem chain_label {w : World} {a b : Nat} {cs ds : Array Value} (h : Blk w a cs 54) (k : Blk w b ds 64) : a ≠ b := fun e => by
  subst e
  exact blkC_ne h k
/-- a chain's block is written: the rows lie as they lay -/
theorem ab_set2 {lo : Nat} {w : World} {M c N : Nat} {rs : List ARow} {cs : Array Value} (h : AB lo w M c rs) (hN : Blk w N cs 54) (v0 v1 : Value) : AB lo ((w.setCell ⟨N, 0, none⟩ v0).setCell ⟨N, 1, none⟩ v1) M c rs :=
  ab_moved h (fun k => (k.set_other (chain_alarm hN k) _).set_other (chain_alarm hN k) _) (fun k => (k.set_other (chain_label hN k) _).set_other (chain_label hN k) _)
theorem ab_set1 {lo : Nat} {w : World} {M c N : Nat} {rs : List ARow} {cs : Array Value} (h : AB lo w M c rs) (hN : Blk w N cs 54) (i : Nat) (v : Value) : AB lo (w.setCell ⟨N, i, none⟩ v) M c rs :=
  ab_moved h (fun k => k.set_other (chain_alarm hN k) _) (fun k => k.set_other (chain_label hN k) _)
theorem own_grow {w w' : World} {B : Nat} {e : TypeId} {size n : Nat} {v : Value} {xs : List Value} (h : w.ownsRow B e size v n xs) (hb : Below w.heap.size w w') : w'.ownsRow B e size v n xs :=
  h.kept (bel_grown hb) (by cases hv : v.ownBlock with | none => exact .inl rfl | some k => exact .inr (fun e => by cases e))
end Go.Proofs.Ytbccaioahifloab.ChnP
namespace Go.Proofs.Ytbccaioahifloab.ChnD
open Go.RowKit
open Go.Proofs.Ytbccaioahifloab.Labs Go.Proofs.Ytbccaioahifloab.LabS Go.Proofs.Ytbccaioahifloab.Alms Go.Proofs.Ytbccaioahifloab.AlmS Go.Proofs.Ytbccaioahifloab.AlmM Go.Proofs.Ytbccaioahifloab.Over Go.Proofs.Ytbccaioahifloab.Blk Go.Proofs.Ytbccaioahifloab.Rnd Go.Proofs.Ytbccaioahifloab.Plc Go.Proofs.Ytbccaioahifloab.Lop Go.Proofs.Ytbccaioahifloab.App Go.Proofs.Ytbccaioahifloab.Rws Go.Proofs.Ytbccaioahifloab.ChnI Go.Proofs.Ytbccaioahifloab.ChnC Go.Proofs.Ytbccaioahifloab.ChnP
set_option linter.unusedVariables false
attribute [local go_sem] Oper.semAt_some

end Go.Proofs.Ytbccaioahifloab.ChnD
