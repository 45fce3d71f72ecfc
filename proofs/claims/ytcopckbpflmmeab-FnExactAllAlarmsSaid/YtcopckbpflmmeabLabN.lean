/-
  The order of lists of labels is total and strict. No program is spoken of.
-/
import Derived.Test.YtcopckbpflmmeabLabL
import Derived.Test.YtcopckbpflmmeabLawB
namespace Go.Proofs.Ytcopckbpflmmeab.LabN
open Go.Proofs.Ytcopckbpflmmeab.Labs Go.Proofs.Ytcopckbpflmmeab.LabL
open Go.Proofs.Ytcopckbpflmmeab.StrB (lessB)
open Go.Proofs.Ytcopckbpflmmeab.LawB (less_irrefl less_total)

theorem lessB_irrefl (a : ByteArray) : lessB a a = false := less_irrefl _
theorem lessB_total {a b : ByteArray} (h : a ≠ b) : (lessB a b != lessB b a) = true := less_total _ _ fun e => by
  rw [ByteArray.toList_eq, ByteArray.toList_eq] at e
  exact h (Go.WideShapes.bytes_inj e)
theorem ll_total {x y : Lab} (h : x ≠ y) : (llB x y != llB y x) = true := by
  by_cases e : x.1 = y.1
  · rw [llB_eq e, llB_eq e.symm]
    exact lessB_total fun e2 => h (Prod.ext e e2)
  · rw [llB_ne e, llB_ne (Ne.symm e)]
    exact lessB_total e
theorem sl_irrefl : ∀ l : List Lab, slB l l = false
  | [] => rfl
  | x :: l => by rw [slB, if_pos rfl]; exact sl_irrefl l
theorem sl_total : ∀ {l m : List Lab}, l ≠ m → (slB l m != slB m l) = true
  | [], [], h => absurd rfl h
  | [], y :: m, _ => rfl
  | x :: l, [], _ => rfl
  | x :: l, y :: m, h => by
    by_cases e : x = y
    · subst e
      rw [slB, slB, if_pos rfl, if_pos rfl]
      exact sl_total fun e => h (by rw [e])
    · rw [slB, slB, if_neg e, if_neg (Ne.symm e)]
      exact ll_total e
theorem sl_cases (l m : List Lab) : (l = m ∧ slB l m = false) ∨ (l ≠ m ∧ slB l m = true ∧ slB m l = false) ∨ (l ≠ m ∧ slB l m = false ∧ slB m l = true) := by
  by_cases e : l = m
  · left; subst e; exact ⟨rfl, sl_irrefl l⟩
  · right
    have := sl_total e
    cases h1 : slB l m <;> cases h2 : slB m l <;> rw [h1, h2] at this
    · cases this
    · exact .inr ⟨e, rfl, rfl⟩
    · exact .inl ⟨e, rfl, rfl⟩
    · cases this
end Go.Proofs.Ytcopckbpflmmeab.LabN
