/-
  PROVED: over a part in memory spec.l7At finds the first chain of a number, and spec.FindIn gives a copy of the first alarm of the labels in it, as plain functions on lists of chains say; nothing that was there is changed.
-/
import Derived.Test.YtcopckbpflmmeabPrtO
namespace Go.Proofs.Ytcopckbpflmmeab.PrtF
open Go.RowKit
open Go.Proofs.Ytcopckbpflmmeab.Labs Go.Proofs.Ytcopckbpflmmeab.LabS Go.Proofs.Ytcopckbpflmmeab.Alms Go.Proofs.Ytcopckbpflmmeab.AlmS Go.Proofs.Ytcopckbpflmmeab.AlmM Go.Proofs.Ytcopckbpflmmeab.Over Go.Proofs.Ytcopckbpflmmeab.Blk Go.Proofs.Ytcopckbpflmmeab.App Go.Proofs.Ytcopckbpflmmeab.Rws Go.Proofs.Ytcopckbpflmmeab.ChnI Go.Proofs.Ytcopckbpflmmeab.ChnC Go.Proofs.Ytcopckbpflmmeab.ChnP Go.Proofs.Ytcopckbpflmmeab.ChnS Go.Proofs.Ytcopckbpflmmeab.ChnK Go.Proofs.Ytcopckbpflmmeab.Chs Go.Proofs.Ytcopckbpflmmeab.Prt Go.Proofs.Ytcopckbpflmmeab.PrtO
open Go.Proofs.Ytcopckbpflmmeab.Fing (fingerB)
open Go.Proofs.Ytcopckbpflmmeab.Alm (at_par)
set_option linter.unusedVariables false

/-- where the first chain of the number f stands -/
def atTo (C : List PCh) (f : Int) : Nat → Option Nat
  | 0 => none
  | k + 1 => match atTo C f k with
    | some j => some j
    | none => if (nthC C k).f = f then some k else none
def atO (C : List PCh) (f : Int) : Option Nat := atTo C f C.length
def atB (C : List PCh) (f : Int) : Int :=
  match atO C f with
  | some j => (j : Int)
  | none => -1
theorem atTo_none {C : List PCh} {f : Int} : ∀ {k : Nat}, (∀ j, j < k → (nthC C j).f ≠ f) → atTo C f k = none
  | 0, _ => rfl
  | k + 1, h => by
    rw [atTo, atTo_none (fun j hj => h j (by omega))]
    simp only []
    rw [if_neg (h k (by omega))]
theorem atTo_some {C : List PCh} {f : Int} {j : Nat} (hj : ∀ i, i < j → (nthC C i).f ≠ f) (he : (nthC C j).f = f) : ∀ {k : Nat}, j < k → atTo C f k = some j
  | 0, h => by omega
  | k + 1, h => by
    by_cases e : j = k
    · subst e
      rw [atTo, atTo_none hj]
      simp only []
      rw [if_pos he]
    · rw [atTo, atTo_some hj he (k := k) (by omega)]
theorem atTo_cases (C : List PCh) (f : Int) : ∀ k, (∀ j, j < k → (nthC C j).f ≠ f) ∨ ∃ j, j < k ∧ (nthC C j).f = f ∧ ∀ i, i < j → (nthC C i).f ≠ f
  | 0 => .inl fun j h => by omega
  | k + 1 => by
    rcases atTo_cases C f k with h | ⟨j, h0, h1, h2⟩
    · by_cases e : (nthC C k).f = f
      · exact .inr ⟨k, by omega, e, h⟩
      · refine .inl fun j hj => ?_
        by_cases q : j = k
        · subst q; exact e
        · exact h j (by omega)
    · exact .inr ⟨j, by omega, h1, h2⟩
theorem at_cases (C : List PCh) (f : Int) : (atO C f = none ∧ atB C f = -1 ∧ ∀ j, j < C.length → (nthC C j).f ≠ f) ∨ ∃ k : Nat, atO C f = some k ∧ atB C f = (k : Int) ∧ k < C.length ∧ (nthC C k).f = f ∧ ∀ j, j < k → (nthC C j).f ≠ f := by
  rcases atTo_cases C f C.length with h | ⟨k, h0, h1, h2⟩
  · have e : atO C f = none := atTo_none h
    exact .inl ⟨e, by unfold atB; rw [e], h⟩
  · have e : atO C f = some k := atTo_some h2 h1 h0
    exact .inr ⟨k, e, by unfold atB; rw [e], h0, h1, h2⟩
theorem at_miss {C : List PCh} {f : Int} (h : ∀ j, j < C.length → (nthC C j).f ≠ f) : atB C f = -1 := by
  have e : atO C f = none := atTo_none h
  unfold atB; rw [e]
theorem at_hit {C : List PCh} {f : Int} {j : Nat} (hj : ∀ i, i < j → (nthC C i).f ≠ f) (he : (nthC C j).f = f) (hl : j < C.length) : atB C f = (j : Int) := by
  have e : atO C f = some j := atTo_some hj he hl
  unfold atB; rw [e]
/-- the alarm of the labels l in a part -/
def findB (C : List PCh) (l : List Lab) : Option PAl :=
  match atO C (fingerB l) with
  | none => none
  | some k => match idxTo (nthC C k).P l (nthC C k).P.length with
    | none => none
    | some i => some (nthP (nthC C k).P i)
theorem find_1 {C : List PCh} {l : List Lab} (h : atO C (fingerB l) = none) : findB C l = none := by unfold findB; rw [h]
theorem find_2 {C : List PCh} {l : List Lab} {k : Nat} (h : atO C (fingerB l) = some k) (h2 : ∀ j, j < (nthC C k).P.length → (nthP (nthC C k).P j).l ≠ l) : findB C l = none := by
  unfold findB; rw [h]; simp only []; rw [idxTo_none h2]
theorem find_3 {C : List PCh} {l : List Lab} {k i : Nat} (h : atO C (fingerB l) = some k) (hj : ∀ j, j < i → (nthP (nthC C k).P j).l ≠ l) (he : (nthP (nthC C k).P i).l = l) (hi : i < (nthC C k).P.length) : findB C l = some (nthP (nthC C k).P i) := by
  unfold findB; rw [h]; simp only []; rw [idxTo_some hj he hi]
/-- what FindIn answers -/
def Found (w w' : World) (e : Ending) (o : Option PAl) : Prop :=
  match o with
  | none => e = .returned (.tuple #[.agg #[.slice none 0 0, .int .i64 0, .int .i64 0, .string ByteArray.empty], .bool false])
  | some x => ∃ M c, e = .returned (.tuple #[.agg #[.slice (some ⟨M, 0, none⟩) x.l.length c, .int .i64 x.s, .int .i64 x.e, .string x.n], .bool true]) ∧ LabR.Own w w' M x.l

end Go.Proofs.Ytcopckbpflmmeab.PrtF
