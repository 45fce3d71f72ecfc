/-
  PROVED: over two slices of labels in memory spec.SetLess and impl.SetLess answer alike, as a plain function on lists says; nothing that was there is changed.
-/
import Derived.Test.YtinegehejinmiaaLabS
import Derived.Deep.RegionHeld3
namespace Go.Proofs.Ytinegehejinmiaa.LabL
open Go.RowKit
open Go.Proofs.Ytinegehejinmiaa.Labs Go.Proofs.Ytinegehejinmiaa.LabS
open Go.Proofs.Ytinegehejinmiaa.StrB (lessB retB drew_more specLess_any implLess_any)
set_option linter.unusedVariables false

theorem bel_drewN {B : Nat} {a w : World} (h : Below B a w) (n : Nat) : Below B a (w.drewN n) := ⟨h.os, h.tape, h.output, h.size, h.block⟩
theorem grow_on {z a b : World} (h : Below z.heap.size z a) (k : Below a.heap.size a b) : Below z.heap.size z b := h.trans (k.mono h.size)
/-- whether one list of labels is ahead of another -/
def slB : List Lab → List Lab → Bool
  | [], m => decide (0 < m.length)
  | _ :: _, [] => false
  | x :: l, y :: m => if x = y then slB l m else llB x y
theorem sl_cut : ∀ {k : Nat} {l m : List Lab}, k ≤ l.length → k ≤ m.length → (∀ j, j < k → nth l j = nth m j) → slB l m = slB (l.drop k) (m.drop k)
  | 0, _, _, _, _, _ => rfl
  | k + 1, [], m, h, _, _ => by simp at h
  | k + 1, _ :: _, [], _, h, _ => by simp at h
  | k + 1, x :: l, y :: m, h1, h2, hj => by
    have h0 : x = y := hj 0 (by omega)
    rw [slB, if_pos h0]
    exact sl_cut (by simpa using h1) (by simpa using h2) fun j h => hj (j + 1) (by omega)
theorem sl_at {k : Nat} {l m : List Lab} (h1 : k < l.length) (h2 : k < m.length) (hj : ∀ j, j < k → nth l j = nth m j) (hne : nth l k ≠ nth m k) : slB l m = llB (nth l k) (nth m k) := by
  rw [sl_cut (Nat.le_of_lt h1) (Nat.le_of_lt h2) hj, List.drop_eq_getElem_cons h1, List.drop_eq_getElem_cons h2, slB, if_neg (by rwa [← nth_eq h1, ← nth_eq h2]), nth_eq h1, nth_eq h2]
theorem sl_end {k : Nat} {l m : List Lab} (h1 : k ≤ l.length) (h2 : k ≤ m.length) (he : k = l.length ∨ k = m.length) (hj : ∀ j, j < k → nth l j = nth m j) : slB l m = decide (l.length < m.length) := by
  rw [sl_cut h1 h2 hj]
  rcases he with rfl | rfl
  · rw [List.drop_length, slB, List.length_drop]; exact decide_eq_decide.2 (by omega)
  · rw [List.drop_length]
    cases h : l.drop m.length with
    | nil => rw [slB]; exact decide_eq_decide.2 (by have := congrArg List.length h; simp at this; simp; omega)
    | cons x t => rw [slB]; exact (decide_eq_false (by omega)).symm

theorem sl_name {k : Nat} {l m : List Lab} (h1 : k < l.length) (h2 : k < m.length) (hj : ∀ j, j < k → nth l j = nth m j) (hne : (nth l k).1 ≠ (nth m k).1) : slB l m = lessB (nth l k).1 (nth m k).1 := by
  rw [sl_at h1 h2 hj fun e => hne (by rw [e]), llB_ne hne]
theorem sl_val {k : Nat} {l m : List Lab} (h1 : k < l.length) (h2 : k < m.length) (hj : ∀ j, j < k → nth l j = nth m j) (h : (nth l k).1 = (nth m k).1) (hne : (nth l k).2 ≠ (nth m k).2) : slB l m = lessB (nth l k).2 (nth m k).2 := by
  rw [sl_at h1 h2 hj fun e => hne (by rw [e]), llB_eq h]
theorem up_one {k : Nat} {l m : List Lab} (hj : ∀ j, j < k → nth l j = nth m j) (he : nth l k = nth m k) : ∀ j, j < k + 1 → nth l j = nth m j := fun j h => by
  by_cases e : j = k
  · subst e; exact he
  · exact hj j (by omega)

end Go.Proofs.Ytinegehejinmiaa.LabL
