/-
  PROVED: over a part in memory spec.PartOk and impl.PartOk answer alike, as a plain function on lists of chains says; nothing that was there is changed.
-/
import Derived.Test.YtcopckbpflmmeaaPrt
import Derived.Test.YtcopckbpflmmeaaSums
namespace Go.Proofs.Ytcopckbpflmmeaa.PrtO
open Go.RowKit
open Go.Proofs.Ytcopckbpflmmeaa.Labs Go.Proofs.Ytcopckbpflmmeaa.LabS Go.Proofs.Ytcopckbpflmmeaa.Alms Go.Proofs.Ytcopckbpflmmeaa.AlmS Go.Proofs.Ytcopckbpflmmeaa.AlmM Go.Proofs.Ytcopckbpflmmeaa.Over Go.Proofs.Ytcopckbpflmmeaa.Blk Go.Proofs.Ytcopckbpflmmeaa.App Go.Proofs.Ytcopckbpflmmeaa.Rws Go.Proofs.Ytcopckbpflmmeaa.ChnI Go.Proofs.Ytcopckbpflmmeaa.ChnC Go.Proofs.Ytcopckbpflmmeaa.ChnP Go.Proofs.Ytcopckbpflmmeaa.ChnO Go.Proofs.Ytcopckbpflmmeaa.ChnS Go.Proofs.Ytcopckbpflmmeaa.ChnK Go.Proofs.Ytcopckbpflmmeaa.Chs Go.Proofs.Ytcopckbpflmmeaa.Prt
open Go.Proofs.Ytcopckbpflmmeaa.StrB (retB)
open Go.Proofs.Ytcopckbpflmmeaa.Sums (partB)
open Go.Proofs.Ytcopckbpflmmeaa.Alm (at_par)
set_option linter.unusedVariables false

/-- whether the k-th chain of a part is right -/
def okP (C : List PCh) (i n : Int) (k : Nat) : Bool := chainB (nthC C k).f (nthC C k).P && (decide (partB (nthC C k).f n = i) && (decide (k = 0) || decide ((nthC C (k - 1)).f < (nthC C k).f)))
def partOkB (C : List PCh) (hd vr i n : Int) : Bool := (List.range C.length).all (okP C i n) && (Names.inB hd (-1) 4 && decide (vr ≥ 0))
theorem okP_1 {C : List PCh} {i n : Int} {k : Nat} (h : chainB (nthC C k).f (nthC C k).P = false) : okP C i n k = false := by simp [okP, h]
theorem okP_2 {C : List PCh} {i n : Int} {k : Nat} (h : partB (nthC C k).f n ≠ i) : okP C i n k = false := by simp [okP, h]
theorem okP_3 {C : List PCh} {i n : Int} {m : Nat} (h : (nthC C (m + 1)).f ≤ (nthC C m).f) : okP C i n (m + 1) = false := by
  have : ¬ (nthC C m).f < (nthC C (m + 1)).f := by omega
  simp [okP, this]
theorem okP_0 {C : List PCh} {i n : Int} (h1 : chainB (nthC C 0).f (nthC C 0).P = true) (h2 : partB (nthC C 0).f n = i) : okP C i n 0 = true := by simp [okP, h1, h2]
theorem okP_s {C : List PCh} {i n : Int} {m : Nat} (h1 : chainB (nthC C (m + 1)).f (nthC C (m + 1)).P = true) (h2 : partB (nthC C (m + 1)).f n = i) (h3 : ¬ (nthC C (m + 1)).f ≤ (nthC C m).f) : okP C i n (m + 1) = true := by
  have : (nthC C m).f < (nthC C (m + 1)).f := by omega
  simp [okP, h1, h2, this]
theorem part_bad {C : List PCh} {hd vr i n : Int} {k : Nat} (hk : k < C.length) (h : okP C i n k = false) : partOkB C hd vr i n = false := by
  unfold partOkB
  rw [Bool.and_eq_false_iff]
  left
  rw [List.all_eq_false]
  exact ⟨k, by simpa using hk, by simp [h]⟩
theorem part_good {C : List PCh} {hd vr i n : Int} (h : ∀ k, k < C.length → okP C i n k = true) : partOkB C hd vr i n = (Names.inB hd (-1) 4 && decide (vr ≥ 0)) := by
  have : (List.range C.length).all (okP C i n) = true := by rw [List.all_eq_true]; intro k hk; exact h k (by simpa using hk)
  unfold partOkB
  rw [this]; rfl
theorem ok_up {C : List PCh} {i n : Int} {k : Nat} (h : ∀ j, j < k → okP C i n j = true) (hk : okP C i n k = true) : ∀ j, j < k + 1 → okP C i n j = true := fun j hj => by
  by_cases e : j = k
  · subst e; exact hk
  · exact h j (by omega)
/-- what is known of the chains of a part that is small enough -/
def Small (C : List PCh) : Prop := ∀ x ∈ C, x.P.length ≤ 1048576 ∧ LenM x.P
end Go.Proofs.Ytcopckbpflmmeaa.PrtO
