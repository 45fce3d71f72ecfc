/-
  PROVED: over a part in memory impl.FindIn gives a copy of the first alarm of the labels in the first chain of their number, as a plain function on lists of chains says; nothing that was there is changed.
-/
import Derived.Test.YtcopckbpflmmeaaPrtF
import Derived.Test.YtcopckbpflmmeaaPrtH
namespace Go.Proofs.Ytcopckbpflmmeaa.PrtI
open Go.RowKit
open Go.Proofs.Ytcopckbpflmmeaa.Labs Go.Proofs.Ytcopckbpflmmeaa.LabS Go.Proofs.Ytcopckbpflmmeaa.Alms Go.Proofs.Ytcopckbpflmmeaa.AlmS Go.Proofs.Ytcopckbpflmmeaa.AlmM Go.Proofs.Ytcopckbpflmmeaa.Over Go.Proofs.Ytcopckbpflmmeaa.Blk Go.Proofs.Ytcopckbpflmmeaa.App Go.Proofs.Ytcopckbpflmmeaa.Rws Go.Proofs.Ytcopckbpflmmeaa.ChnI Go.Proofs.Ytcopckbpflmmeaa.ChnC Go.Proofs.Ytcopckbpflmmeaa.ChnP Go.Proofs.Ytcopckbpflmmeaa.ChnS Go.Proofs.Ytcopckbpflmmeaa.ChnK Go.Proofs.Ytcopckbpflmmeaa.Chs Go.Proofs.Ytcopckbpflmmeaa.Prt Go.Proofs.Ytcopckbpflmmeaa.PrtO Go.Proofs.Ytcopckbpflmmeaa.PrtF Go.Proofs.Ytcopckbpflmmeaa.PrtH Go.Proofs.Ytcopckbpflmmeaa.Mps
open Go.Proofs.Ytcopckbpflmmeaa.Fing (fingerB)
set_option linter.unusedVariables false

theorem cntF_zero {C : List PCh} {f : Int} : ∀ {k : Nat}, (∀ j, j < k → (nthC C j).f ≠ f) → cntF C f k = 0
  | 0, _ => rfl
  | k + 1, h => by rw [cntF, cntF_zero (fun j hj => h j (by omega)), if_neg (h k (by omega))]
theorem shG_first {C : List PCh} {val : Nat → Value} {f : Int} {k : Nat} (hk : k < C.length) (hf : (nthC C k).f = f) (h : ∀ j, j < k → (nthC C j).f ≠ f) : shG C val C.length (f, 0) = some (val k) := by
  have e : keyC C k = (f, 0) := by unfold keyC; rw [hf, cntF_zero h]; rfl
  rw [← e]; exact shG_at hk
theorem shG_miss {C : List PCh} {val : Nat → Value} {f z : Int} (h : ∀ j, j < C.length → (nthC C j).f ≠ f) : shG C val C.length (f, z) = none :=
  shG_no fun i hi e => h i hi (congrArg Prod.fst e).symm
theorem fieldM (f : Option Nat) (a : Option Addr) (n c : Nat) (w : World) : (Instr.field 110 (.agg #[.map f, .slice a n c]) 0).run Try.prog w = .ok (.map f) w := by kernel_rfl
end Go.Proofs.Ytcopckbpflmmeaa.PrtI
