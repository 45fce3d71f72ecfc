/-
  PROVED: the contracts of the comparing function that SortSet hands to the library's sort, and of the library's insertion sort over labels: it leaves the row sorted as the plain lists say.
-/
import Derived.Test.YtgncimlojbnbfaaLabP
import Derived.Test.YtgncimlojbnbfaaLabT
namespace Go.Proofs.Ytgncimlojbnbfaa.LabQ
open Go.RowKit
open Go.Proofs.Ytgncimlojbnbfaa.Labs Go.Proofs.Ytgncimlojbnbfaa.LabS Go.Proofs.Ytgncimlojbnbfaa.LabP Go.Proofs.Ytgncimlojbnbfaa.Over Go.Proofs.Ytgncimlojbnbfaa.Blk
open Go.Proofs.Ytgncimlojbnbfaa.StrB (lessB retB)
set_option linter.unusedVariables false

def cmpI (x y : Lab) : Int := if lessB x.1 y.1 = true then -1 else if lessB y.1 x.1 = true then 1 else 0
theorem cmp_less {x y : Lab} (h : lessB x.1 y.1 = true) : cmpI x y = -1 := if_pos h
theorem cmp_more {x y : Lab} (h : lessB x.1 y.1 = false) (k : lessB y.1 x.1 = true) : cmpI x y = 1 := by unfold cmpI; rw [if_neg (by rw [h]; simp), if_pos k]
theorem cmp_same {x y : Lab} (h : lessB x.1 y.1 = false) (k : lessB y.1 x.1 = false) : cmpI x y = 0 := by unfold cmpI; rw [if_neg (by rw [h]; simp), if_neg (by rw [k]; simp)]
theorem cmp_ge {x y : Lab} (h : lessB x.1 y.1 = false) : 0 ≤ cmpI x y := by
  cases k : lessB y.1 x.1 with
  | true => rw [cmp_more h k]; decide
  | false => rw [cmp_same h k]; decide
theorem retI {a b : Int} (h : a = b) : Ending.returned (.int .i64 a) = .returned (.int .i64 b) := by rw [h]

/-- the cells hold what f says, up to the n-th element -/
def HeldF (cs : Array Value) (f : Nat → Lab) (n : Nat) : Prop := ∀ m, m < n → cs[m * 2]? = some (.string (f m).1) ∧ cs[m * 2 + 1]? = some (.string (f m).2)
theorem HeldF.of {cs : Array Value} {f g : Nat → Lab} {n : Nat} (h : HeldF cs f n) (e : ∀ m, m < n → g m = f m) : HeldF cs g n := fun m hm => by rw [e m hm]; exact h m hm
theorem upto_one (l : List Lab) : upto l 1 = [nth l 0] := rfl

theorem set_hit {cs : Array Value} {i : Nat} {v : Value} (h : i < cs.size) : (cs.setIfInBounds i v)[i]? = some v := by
  rw [Array.getElem?_setIfInBounds, if_pos rfl, if_pos h]
theorem set_miss {cs : Array Value} {i j : Nat} {v : Value} (h : i ≠ j) : (cs.setIfInBounds i v)[j]? = cs[j]? := Array.getElem?_setIfInBounds_ne h
theorem swap_held {cs : Array Value} {l : List Lab} {i k n : Nat} (h : HeldF cs (nth (row l i (k + 1))) n) (hk : k + 1 ≤ i) (hn : k + 1 < n) (hs : cs.size = n * 2) :
    HeldF ((((cs.setIfInBounds ((k + 1) * 2) (.string (nth (upto l i) k).1)).setIfInBounds ((k + 1) * 2 + 1) (.string (nth (upto l i) k).2)).setIfInBounds (k * 2) (.string (nth l i).1)).setIfInBounds (k * 2 + 1) (.string (nth l i).2)) (nth (row l i k)) n := by
  intro m hm
  rw [row_swap hk]
  by_cases h1 : m = k
  · rw [if_pos h1, row_at hk, h1]
    exact ⟨by rw [set_miss (by omega), set_hit (by simp; omega)], by rw [set_hit (by simp; omega)]⟩
  · rw [if_neg h1]
    by_cases h2 : m = k + 1
    · rw [if_pos h2, row_ahead hk, h2]
      exact ⟨by rw [set_miss (by omega), set_miss (by omega), set_miss (by omega), set_hit (by omega)], by rw [set_miss (by omega), set_miss (by omega), set_hit (by simp; omega)]⟩
    · rw [if_neg h2]
      rw [set_miss (by omega), set_miss (by omega), set_miss (by omega), set_miss (by omega), set_miss (by omega), set_miss (by omega), set_miss (by omega), set_miss (by omega)]
      exact h m hm

end Go.Proofs.Ytgncimlojbnbfaa.LabQ
