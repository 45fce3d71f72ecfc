/-
  What the functions of all groups come to, plain: the first of a key, of a number, of labels; whether groups may be.
-/
import Derived.Test.YtgncimlojbnbfaaGreatQGps
set_option linter.unusedVariables false
namespace Go.Proofs.YtgncimlojbnbfaaGreat.GpD
open Go.RowKit
open Labs LabS Alms Over Gps
theorem retN {x y : Int} (h : x = y) : Ending.returned (.int .i64 x) = .returned (.int .i64 y) := by rw [h]
def ofI (p : PGr → Bool) (U : List PGr) : Int := if U.findIdx p < U.length then (U.findIdx p : Int) else -1
theorem ofI_at {p : PGr → Bool} {U : List PGr} {k : Nat} (hk : k < U.length) (hj : ∀ j, j < k → p (nthG U j) = false) (h : p (nthG U k) = true) : ofI p U = (k : Int) := by
  have e : U.findIdx p = k := by
    rw [List.findIdx_eq hk]
    refine ⟨by rw [nthG_eq hk] at h; exact h, fun j hj' => ?_⟩
    have := hj j hj'
    rwa [nthG_eq (by omega)] at this
  unfold ofI
  rw [e, if_pos hk]
theorem ofI_end {p : PGr → Bool} {U : List PGr} (hj : ∀ j, j < U.length → p (nthG U j) = false) : ofI p U = -1 := by
  have e : U.findIdx p = U.length := by
    rw [List.findIdx_eq_length]
    intro y hy
    obtain ⟨j, hj', rfl⟩ := List.getElem_of_mem hy
    have := hj j hj'
    rwa [nthG_eq hj'] at this
  unfold ofI
  rw [e, if_neg (by omega)]
theorem ofI_cases (p : PGr → Bool) (U : List PGr) : (ofI p U = -1 ∧ ∀ j, j < U.length → p (nthG U j) = false) ∨ ∃ k : Nat, ofI p U = (k : Int) ∧ k < U.length ∧ p (nthG U k) = true ∧ ∀ j, j < k → p (nthG U j) = false := by
  by_cases h : U.findIdx p < U.length
  · refine .inr ⟨U.findIdx p, by unfold ofI; rw [if_pos h], h, ?_, fun j hj => ?_⟩
    · rw [nthG_eq h]; exact List.findIdx_getElem (w := h)
    · rw [nthG_eq (by omega)]; exact List.not_of_lt_findIdx hj
  · refine .inl ⟨by unfold ofI; rw [if_neg h], fun j hj => ?_⟩
    rw [nthG_eq hj]
    exact List.not_of_lt_findIdx (show j < U.findIdx p by omega)
def keyIs (key : List Lab) (x : PGr) : Bool := decide (x.key = key)
def numIs (n : Int) (x : PGr) : Bool := decide (x.n = n)
def hasL (s : List Lab) (x : PGr) : Bool := (List.range x.P.length).any fun i => decide ((nthP x.P i).l = s)
theorem hasL_yes {s : List Lab} {x : PGr} {k : Nat} (hk : k < x.P.length) (h : (nthP x.P k).l = s) : hasL s x = true := by
  unfold hasL
  rw [List.any_eq_true]
  exact ⟨k, List.mem_range.2 hk, decide_eq_true h⟩
theorem hasL_no {s : List Lab} {x : PGr} (h : ∀ j, j < x.P.length → (nthP x.P j).l ≠ s) : hasL s x = false := by
  unfold hasL
  rw [List.any_eq_false]
  exact fun j hj => by simpa using h j (List.mem_range.1 hj)
def memG (U : List PGr) (s : List Lab) : Int := match U.find? (hasL s) with
  | some x => x.n
  | none => -1
theorem memG_at {U : List PGr} {s : List Lab} {k : Nat} (hk : k < U.length) (hj : ∀ j, j < k → hasL s (nthG U j) = false) (h : hasL s (nthG U k) = true) : memG U s = (nthG U k).n := by
  have e : U.find? (hasL s) = some (nthG U k) := by
    rw [List.find?_eq_some_iff_getElem]
    refine ⟨h, k, hk, (nthG_eq hk).symm, fun j hj' => ?_⟩
    have := hj j hj'
    rw [nthG_eq (by omega)] at this
    simpa using this
  unfold memG
  rw [e]
theorem memG_end {U : List PGr} {s : List Lab} (hj : ∀ j, j < U.length → hasL s (nthG U j) = false) : memG U s = -1 := by
  have e : U.find? (hasL s) = none := by
    rw [List.find?_eq_none]
    intro y hy
    obtain ⟨j, hj', rfl⟩ := List.getElem_of_mem hy
    have := hj j hj'
    rw [nthG_eq hj'] at this
    simpa using this
  unfold memG
  rw [e]
end Go.Proofs.YtgncimlojbnbfaaGreat.GpD
