/-
  Plain lists of labels: putting one into a sorted list from the right, sorting by that, what SortSet answers. No program is spoken of.
-/
import Derived.Test.YtgncimlojbnbfaaLabO
namespace Go.Proofs.Ytgncimlojbnbfaa.LabP
open Go.RowKit
open Go.Proofs.Ytgncimlojbnbfaa.Labs Go.Proofs.Ytgncimlojbnbfaa.LabS
open Go.Proofs.Ytgncimlojbnbfaa.StrB (lessB retB)
open Go.Proofs.Ytgncimlojbnbfaa.LabO (setB set_long okAt)
set_option linter.unusedVariables false

theorem nth_left {a b : List Lab} {m : Nat} (h : m < a.length) : nth (a ++ b) m = nth a m := by
  unfold nth; simp only [List.getD_eq_getElem?_getD]; rw [List.getElem?_append_left h]
theorem nth_right {a b : List Lab} {m : Nat} (h : a.length ≤ m) : nth (a ++ b) m = nth b (m - a.length) := by
  unfold nth; simp only [List.getD_eq_getElem?_getD]; rw [List.getElem?_append_right h]
theorem nth_drop {a : List Lab} {k m : Nat} : nth (a.drop k) m = nth a (k + m) := by
  unfold nth; simp only [List.getD_eq_getElem?_getD]; rw [List.getElem?_drop]
/-- x put into p ahead of its j-th one -/
def mid (p : List Lab) (x : Lab) (j : Nat) : List Lab := p.take j ++ x :: p.drop j
/-- how far from the left x stands in p, looked for from the k-th one down -/
def pos (x : Lab) (p : List Lab) : Nat → Nat
  | 0 => 0
  | k + 1 => if lessB x.1 (nth p k).1 = true then pos x p k else k + 1
theorem pos_zero (x : Lab) (p : List Lab) : pos x p 0 = 0 := rfl
theorem pos_yes {x : Lab} {p : List Lab} {k : Nat} (h : lessB x.1 (nth p k).1 = true) : pos x p (k + 1) = pos x p k := if_pos h
theorem pos_no {x : Lab} {p : List Lab} {k : Nat} (h : lessB x.1 (nth p k).1 = false) : pos x p (k + 1) = k + 1 := if_neg (by rw [h]; simp)
theorem pos_le (x : Lab) (p : List Lab) : ∀ k, pos x p k ≤ k
  | 0 => Nat.le_refl _
  | k + 1 => by
    unfold pos
    split
    · exact Nat.le_succ_of_le (pos_le x p k)
    · exact Nat.le_refl _
def ins (p : List Lab) (x : Lab) : List Lab := mid p x (pos x p p.length)
/-- the first k of l, sorted -/
def upto (l : List Lab) : Nat → List Lab
  | 0 => []
  | k + 1 => ins (upto l k) (nth l k)
theorem mid_length (p : List Lab) (x : Lab) (j : Nat) : (mid p x j).length = p.length + 1 := by
  unfold mid; simp; omega
theorem ins_length (p : List Lab) (x : Lab) : (ins p x).length = p.length + 1 := mid_length _ _ _
theorem upto_length (l : List Lab) : ∀ k, (upto l k).length = k
  | 0 => rfl
  | k + 1 => by rw [upto, ins_length, upto_length l k]
theorem nth_mid_lt {p : List Lab} {x : Lab} {j i : Nat} (h : i < j) (hj : j ≤ p.length) : nth (mid p x j) i = nth p i := by
  unfold nth mid
  simp only [List.getD_eq_getElem?_getD]
  rw [List.getElem?_append_left (by simp; omega), List.getElem?_take_of_lt h]
theorem nth_mid_eq {p : List Lab} {x : Lab} {j : Nat} (hj : j ≤ p.length) : nth (mid p x j) j = x := by
  unfold nth mid
  simp only [List.getD_eq_getElem?_getD]
  rw [List.getElem?_append_right (by simp; omega)]
  simp [Nat.min_eq_left hj]
theorem nth_mid_gt {p : List Lab} {x : Lab} {j i : Nat} (h : j < i) (hj : j ≤ p.length) : nth (mid p x j) i = nth p (i - 1) := by
  unfold nth mid
  simp only [List.getD_eq_getElem?_getD]
  rw [List.getElem?_append_right (by simp; omega)]
  simp only [List.length_take, Nat.min_eq_left hj]
  obtain ⟨d, rfl⟩ : ∃ d, i = j + (d + 1) := ⟨i - j - 1, by omega⟩
  rw [Nat.add_sub_cancel_left, List.getElem?_cons_succ, List.getElem?_drop]
  have : j + (d + 1) - 1 = j + d := by omega
  rw [this]

/-- the row while the i-th one is on its way down at place j: p sorted, x, then the rest of l -/
def row (l : List Lab) (i j : Nat) : List Lab := mid (upto l i) (nth l i) j ++ l.drop (i + 1)
theorem row_length {l : List Lab} {i j : Nat} (h : i < l.length) : (row l i j).length = l.length := by
  unfold row; rw [List.length_append, mid_length, upto_length]; simp; omega
theorem nth_row_mid {l : List Lab} {i j m : Nat} (hm : m ≤ i) : nth (row l i j) m = nth (mid (upto l i) (nth l i) j) m := by
  unfold row
  rw [nth_left (by rw [mid_length, upto_length]; omega)]
theorem nth_row_rest {l : List Lab} {i j m : Nat} (hm : i < m) : nth (row l i j) m = nth l m := by
  unfold row
  rw [nth_right (by rw [mid_length, upto_length]; omega), mid_length, upto_length, nth_drop]
  have : i + 1 + (m - (i + 1)) = m := by omega
  rw [this]
theorem row_at {l : List Lab} {i j : Nat} (hj : j ≤ i) : nth (row l i j) j = nth l i := by
  rw [nth_row_mid hj, nth_mid_eq (by rw [upto_length]; exact hj)]
theorem row_ahead {l : List Lab} {i j : Nat} (hj : j + 1 ≤ i) : nth (row l i (j + 1)) j = nth (upto l i) j := by
  rw [nth_row_mid (by omega), nth_mid_lt (Nat.lt_succ_self j) (by rw [upto_length]; exact hj)]
/-- one step down: two neighbours change places -/
theorem row_swap {l : List Lab} {i j m : Nat} (hj : j + 1 ≤ i) : nth (row l i j) m = if m = j then nth (row l i (j + 1)) (j + 1) else if m = j + 1 then nth (row l i (j + 1)) j else nth (row l i (j + 1)) m := by
  have hp : (upto l i).length = i := upto_length l i
  by_cases h0 : m ≤ i
  · by_cases h1 : m = j
    · rw [if_pos h1, h1, row_at (by omega), row_at hj]
    · rw [if_neg h1]
      by_cases h2 : m = j + 1
      · rw [if_pos h2, h2, row_ahead hj, nth_row_mid hj, nth_mid_gt (Nat.lt_succ_self j) (by omega)]
        rfl
      · rw [if_neg h2, nth_row_mid h0, nth_row_mid h0]
        by_cases h3 : m < j
        · rw [nth_mid_lt h3 (by omega), nth_mid_lt (by omega) (by omega)]
        · rw [nth_mid_gt (by omega) (by omega), nth_mid_gt (by omega) (by omega)]
  · rw [if_neg (by omega), if_neg (by omega), nth_row_rest (by omega), nth_row_rest (by omega)]
theorem row_start {l : List Lab} {i : Nat} (h : i < l.length) {m : Nat} : nth (row l i i) m = if m < i then nth (upto l i) m else nth l m := by
  by_cases h0 : m < i
  · rw [if_pos h0, nth_row_mid (by omega), nth_mid_lt h0 (by rw [upto_length]; omega)]
  · rw [if_neg h0]
    by_cases h1 : m = i
    · rw [h1, row_at (Nat.le_refl _)]
    · rw [nth_row_rest (by omega)]
theorem row_end {l : List Lab} {i m : Nat} (h : i < l.length) : nth (row l i (pos (nth l i) (upto l i) i)) m = if m < i + 1 then nth (upto l (i + 1)) m else nth l m := by
  by_cases h0 : m < i + 1
  · rw [if_pos h0, nth_row_mid (by omega)]
    have : upto l (i + 1) = mid (upto l i) (nth l i) (pos (nth l i) (upto l i) i) := by
      rw [upto, ins, upto_length]
    rw [this]
  · rw [if_neg h0, nth_row_rest (by omega)]

/-- what SortSet answers -/
def sortB (l : List Lab) : List Lab × Bool := if 4 < l.length then ([], false) else if setB (upto l l.length) = true then (upto l l.length, true) else ([], false)
theorem sort_long {l : List Lab} (h : 4 < l.length) : sortB l = ([], false) := if_pos h
theorem sort_yes {l : List Lab} (h : ¬ 4 < l.length) (hs : setB (upto l l.length) = true) : sortB l = (upto l l.length, true) := by
  unfold sortB; rw [if_neg h, if_pos hs]
theorem sort_no {l : List Lab} (h : ¬ 4 < l.length) (hs : setB (upto l l.length) = false) : sortB l = ([], false) := by
  unfold sortB; rw [if_neg h, if_neg (by rw [hs]; simp)]
theorem sort_small (l : List Lab) : (sortB l).1.length ≤ 4 := by
  unfold sortB
  split
  · simp
  · split
    · simp only [upto_length]; omega
    · simp
end Go.Proofs.Ytgncimlojbnbfaa.LabP
