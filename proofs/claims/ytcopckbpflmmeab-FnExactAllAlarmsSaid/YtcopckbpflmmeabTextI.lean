/-
  PROVED: over a slice of labels in memory impl.SetText answers the text of the set, nothing where it is no set, by the library's contract of strings.Join; nothing that was there is changed.
-/
import Derived.Test.YtcopckbpflmmeabTextS
import Derived.Test.YtcopckbpflmmeabBlk
import Derived.Test.YtcopckbpflmmeabShelf
import Derived.Lib.Walk
namespace Go.Proofs.Ytcopckbpflmmeab.TextI
open Go.Shelf Go.RowKit
open Go.Proofs.Ytcopckbpflmmeab.Labs Go.Proofs.Ytcopckbpflmmeab.LabS Go.Proofs.Ytcopckbpflmmeab.LabO Go.Proofs.Ytcopckbpflmmeab.SetP Go.Proofs.Ytcopckbpflmmeab.TextS
open Go.Proofs.Ytcopckbpflmmeab.Over Go.Proofs.Ytcopckbpflmmeab.Blk
set_option linter.unusedVariables false

theorem hidL {p : Prop} (h : p) : Hid p := h
theorem grow1 {w z : World} (h : Below w.heap.size w z) (o : Obj) : Below w.heap.size w (z.alloc o) := h.alloc h.size o
theorem grow2 {w z : World} (h : Below w.heap.size w z) (o p : Obj) : Below w.heap.size w ((z.alloc o).alloc p) := grow1 (grow1 h o) p
theorem join_flat (xs : List (List UInt8)) : Lib.join xs [] = xs.flatten := by
  unfold Lib.join
  induction xs with
  | nil => rfl
  | cons x xs ih =>
    cases xs with
    | nil => simp
    | cons y ys => simp [List.intercalate] at ih ⊢; exact ih
theorem infoStr : (Try.prog.info? 9).map (fun i => (i.zero, i.size, i.bytes)) = some (some (.string ByteArray.empty), 1, 16) := by kernel_rfl
/-- the first k cells hold the words of the first k labels -/
def HeldW (cs : Array Value) (l : List Lab) (k : Nat) : Prop := ∀ j, j < k → cs[j]? = some (.string (mk (word (nth l j))))
theorem heldW_up {cs : Array Value} {l : List Lab} {k : Nat} (h : HeldW cs l k) (hs : k < cs.size) : HeldW (cs.setIfInBounds k (.string (mk (word (nth l k))))) l (k + 1) := by
  intro j hj
  by_cases e : j = k
  · subst e; rw [Array.getElem?_setIfInBounds, if_pos rfl, if_pos hs]
  · rw [Array.getElem?_setIfInBounds_ne (by omega)]; exact h j (by omega)
theorem joined (l : List Lab) : (⟨(Lib.join ((l.map fun x => mk (word x)).map (·.data.toList)) (⟨#[44, 32]⟩ : ByteArray).data.toList).toArray⟩ : ByteArray) = mk (words l) := by
  have e : (l.map fun x => mk (word x)).map (·.data.toList) = l.map word := by
    rw [List.map_map]
    exact List.map_congr_left fun x _ => bs_mk (word x)
  show mk (Lib.join _ [44, 32]) = _
  rw [e, join_words]
theorem put_word (x : Lab) : mk (bs x.1 ++ (bs ⟨#[61, 34]⟩ ++ (bs x.2 ++ bs ⟨#[34]⟩))) = mk (word x) := rfl
theorem put_text (l : List Lab) : mk (bs ⟨#[123]⟩ ++ (bs (mk (words l)) ++ bs ⟨#[125]⟩)) = mk (textB l) := by rw [bs_mk]; rfl

end Go.Proofs.Ytcopckbpflmmeab.TextI
