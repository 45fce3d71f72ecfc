/-
  PROVED: over slices of labels in memory spec.ValOf and impl.ValOf, spec.SameSet and impl.SameSet, spec.SetLess and impl.SetLess answer alike, each as a plain function on lists says; nothing that was there is changed.
-/
import Derived.Test.YtekcmpjjfnijmabLabs
namespace Go.Proofs.Ytekcmpjjfnijmab.LabS
open Go.RowKit
open Go.Proofs.Ytekcmpjjfnijmab.StrB Go.Proofs.Ytekcmpjjfnijmab.Labs
set_option linter.unusedVariables false

def nth (l : List Lab) (i : Nat) : Lab := l.getD i (ByteArray.empty, ByteArray.empty)
theorem nth_eq {l : List Lab} {i : Nat} (h : i < l.length) : nth l i = l[i] := by unfold nth; simp [h]
/-- a slice's cells hold these labels -/
def Reads (w : World) (a : Option Addr) (l : List Lab) : Prop :=
  l = [] ∨ ∃ b off, a = some ⟨b, off, none⟩ ∧ b < w.heap.size ∧ ∀ i, i < l.length → w.cell? ⟨b, off + i * 2, none⟩ = some (.string (nth l i).1) ∧ w.cell? ⟨b, off + i * 2 + 1, none⟩ = some (.string (nth l i).2)
theorem Reads.below {w w' : World} {a : Option Addr} {l : List Lab} (h : Reads w a l) (hb : Below w.heap.size w w') : Reads w' a l := by
  rcases h with h | ⟨b, off, rfl, hlt, hc⟩
  · exact .inl h
  · exact .inr ⟨b, off, rfl, Nat.lt_of_lt_of_le hlt hb.size, fun i hi => by rw [hb.cell (p := ⟨b, off + i * 2, none⟩) hlt, hb.cell (p := ⟨b, off + i * 2 + 1, none⟩) hlt]; exact hc i hi⟩
theorem Reads.drew {w wr : World} {a : Option Addr} {l : List Lab} (h : Reads w a l) (hw : ∃ n, wr = w.drewN n) : Reads wr a l := by
  obtain ⟨n, rfl⟩ := hw
  exact h
theorem Reads.get {w : World} {a : Option Addr} {l : List Lab} (h : Reads w a l) {i : Nat} (hi : i < l.length) :
    ∃ b off, a = some ⟨b, off, none⟩ ∧ b < w.heap.size ∧ ∀ i, i < l.length → w.cell? ⟨b, off + i * 2, none⟩ = some (.string (nth l i).1) ∧ w.cell? ⟨b, off + i * 2 + 1, none⟩ = some (.string (nth l i).2) := by
  rcases h with h | h
  · rw [h] at hi; simp at hi
  · exact h

/-- what ValOf answers -/
def valOf : List Lab → ByteArray → ByteArray × Bool
  | [], _ => (ByteArray.empty, false)
  | x :: l, n => if x.1 = n then (x.2, true) else valOf l n
theorem nth_succ (x : Lab) (l : List Lab) (i : Nat) : nth (x :: l) (i + 1) = nth l i := rfl
theorem val_hit : ∀ {l : List Lab} {n : ByteArray} {k : Nat}, (∀ j, j < k → (nth l j).1 ≠ n) → k < l.length → (nth l k).1 = n → valOf l n = ((nth l k).2, true)
  | [], n, k, _, h, _ => by simp at h
  | x :: l, n, 0, _, _, h => by have h' : x.1 = n := h; simp [valOf, h', nth]
  | x :: l, n, k + 1, hj, hk, h => by
    have h0 : x.1 ≠ n := hj 0 (by omega)
    rw [valOf, if_neg h0, val_hit (k := k) (fun j h => hj (j + 1) (by omega)) (by simpa using hk) h]
    rfl
theorem val_miss : ∀ {l : List Lab} {n : ByteArray}, (∀ j, j < l.length → (nth l j).1 ≠ n) → valOf l n = (ByteArray.empty, false)
  | [], _, _ => rfl
  | x :: l, n, h => by
    have h0 : x.1 ≠ n := h 0 (by simp)
    rw [valOf, if_neg h0]
    exact val_miss fun j hj => h (j + 1) (by simpa using hj)
theorem retV {p q : ByteArray × Bool} (h : p = q) : Ending.returned (.tuple #[.string p.1, .bool p.2]) = .returned (.tuple #[.string q.1, .bool q.2]) := by rw [h]

theorem same_of {l m : List Lab} (h : l.length = m.length) (hj : ∀ j, j < l.length → nth l j = nth m j) : l = m := by
  apply List.ext_getElem h
  intro i h1 h2
  have := hj i h1
  rwa [nth_eq h1, nth_eq h2] at this
theorem same_yes {l m : List Lab} (h : l = m) : decide (l = m) = true := by simp [h]
theorem same_no {l m : List Lab} (h : l ≠ m) : decide (l = m) = false := by simp [h]
theorem ne_len {l m : List Lab} (h : l.length ≠ m.length) : l ≠ m := fun e => h (by rw [e])
theorem ne_nth {l m : List Lab} (j : Nat) (h : nth l j ≠ nth m j) : l ≠ m := fun e => h (by rw [e])
theorem pair_yes {x y : Lab} (h : x = y) : (x.1.toList == y.1.toList) = true ∧ (x.2.toList == y.2.toList) = true := by
  subst h; exact ⟨beqS_yes rfl, beqS_yes rfl⟩
theorem pair_no {x y : Lab} (h : x ≠ y) : (x.1.toList == y.1.toList) = false ∨ ((x.1.toList == y.1.toList) = true ∧ (x.2.toList == y.2.toList) = false) := by
  by_cases h1 : x.1 = y.1
  · right
    exact ⟨beqS_yes h1, beqS_no fun h2 => h (Prod.ext h1 h2)⟩
  · exact .inl (beqS_no h1)

end Go.Proofs.Ytekcmpjjfnijmab.LabS
