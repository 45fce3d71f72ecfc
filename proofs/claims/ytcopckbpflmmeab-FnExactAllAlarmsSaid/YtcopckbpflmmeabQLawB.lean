/-
  What a law over drawn inputs begins with: the code that came in as a row of bytes; laws.big; the order of bytes is total.
-/
import Derived.Test.YtcopckbpflmmeabQDrawW
import Derived.ProofKit
import Derived.OpenShut
set_option linter.unusedVariables false
namespace Go.Proofs.Ytcopckbpflmmeab.LawB
open Go.RowKit Draw
open Go.ChangeShapes Go.WideShapes Go.ChangeAt

theorem less_irrefl : ∀ l : List UInt8, Op.bytesLess l l = false
  | [] => rfl
  | a :: l => by simp [Op.bytesLess, less_irrefl l]
theorem less_total : ∀ l m : List UInt8, l ≠ m → (Op.bytesLess l m != Op.bytesLess m l) = true
  | [], [], h => absurd rfl h
  | [], b :: m, _ => rfl
  | a :: l, [], _ => rfl
  | a :: l, b :: m, h => by
    simp only [Op.bytesLess]
    by_cases e : a = b
    · subst e
      have hlm : l ≠ m := fun e => h (by rw [e])
      have := less_total l m hlm
      simpa using this
    · have e1 : (a == b) = false := by simpa using e
      have e2 : (b == a) = false := by simpa using fun e' => e e'.symm
      rw [e1, e2]
      simp only [Bool.false_and, Bool.or_false]
      by_cases hl : a < b
      · have : ¬ b < a := fun h' => by
          rw [UInt8.lt_iff_toNat_lt] at h' hl; omega
        simp [hl, this]
      · have : b < a := by
          rw [UInt8.lt_iff_toNat_lt] at hl ⊢
          have hne : a.toNat ≠ b.toNat := fun h' => e (UInt8.toNat_inj.1 h')
          omega
        simp [hl, this]

theorem retB {a b : Bool} (h : a = b) : Ending.returned (.bool a) = .returned (.bool b) := by rw [h]
end Go.Proofs.Ytcopckbpflmmeab.LawB
