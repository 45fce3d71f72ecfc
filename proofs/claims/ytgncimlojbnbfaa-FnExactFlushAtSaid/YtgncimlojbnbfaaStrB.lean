/-
  PROVED: over a slice of strings in memory spec.InOrder and impl.InOrder answer alike, and so do spec.Less and impl.Less over two strings; nothing is changed.
-/
import Derived.Test.YtgncimlojbnbfaaRows
import Derived.WalkKit
import Derived.WalkLawsBesides
import Derived.WalkSpells
import Derived.Deep.QuietTactic
import Derived.BigQuiet
import Derived.Below
import Derived.WalkSmall
import Derived.Deep.OwnRows
namespace Go.Proofs.Ytgncimlojbnbfaa.StrB
open Go.RowKit
set_option linter.unusedVariables false

/-- the i-th one, kept from being taken apart -/
def nth (l : List ByteArray) (i : Nat) : ByteArray := l.getD i ByteArray.empty
/-- a slice's cells hold these strings -/
def Reads (w : World) (a : Option Addr) (l : List ByteArray) : Prop :=
  l = [] ∨ ∃ b off, a = some ⟨b, off, none⟩ ∧ b < w.heap.size ∧ ∀ i, i < l.length → w.cell? ⟨b, off + i, none⟩ = some (.string (nth l i))
theorem Reads.below {w w' : World} {a : Option Addr} {l : List ByteArray} (h : Reads w a l) (hb : Below w.heap.size w w') : Reads w' a l := by
  rcases h with h | ⟨b, off, rfl, hlt, hc⟩
  · exact .inl h
  · exact .inr ⟨b, off, rfl, Nat.lt_of_lt_of_le hlt hb.size, fun i hi => by rw [hb.cell (p := ⟨b, off + i, none⟩) hlt]; exact hc i hi⟩
theorem drew_more {w wr : World} (h : ∃ n, wr = w.drewN n) (m : Nat) : ∃ n, wr.drewN m = w.drewN n := by
  obtain ⟨n, rfl⟩ := h
  exact ⟨n + m, by rw [World.drewN_drewN]⟩
theorem Reads.drew {w wr : World} {a : Option Addr} {l : List ByteArray} (h : Reads w a l) (hw : ∃ n, wr = w.drewN n) : Reads wr a l := by
  obtain ⟨n, rfl⟩ := hw
  exact h
theorem Reads.drewN {w : World} {a : Option Addr} {l : List ByteArray} (h : Reads w a l) (n : Nat) : Reads (w.drewN n) a l := h

theorem retB {a b : Bool} (h : a = b) : Ending.returned (.bool a) = .returned (.bool b) := by rw [h]

def lessB (a b : ByteArray) : Bool := Op.bytesLess a.toList b.toList
theorem specLess_any (a b : ByteArray) (w : World) : Calls Try.prog 92 #[.string a, .string b] w fun e w' => e = .returned (.bool (lessB a b)) ∧ w' = w := by
  go_enter Try.func92, Try.ntmps92
  go_wp2
  go_ret
  exact ⟨rfl, rfl⟩
theorem implLess_any (a b : ByteArray) (w : World) : Calls Try.prog 112 #[.string a, .string b] w fun e w' => e = .returned (.bool (lessB a b)) ∧ w' = w := by
  go_enter Try.func112, Try.ntmps112
  go_wp2
  go_ret
  exact ⟨rfl, rfl⟩

def ordUpto (l : List ByteArray) (k : Nat) : Prop := ∀ i, i + 1 < k → lessB (nth l i) (nth l (i + 1)) = true
def inOrd (l : List ByteArray) : Bool := (List.range (l.length - 1)).all fun i => lessB (nth l i) (nth l (i + 1))
theorem ord_one (l : List ByteArray) : ordUpto l 1 := fun i h => by omega
theorem ord_succ {l : List ByteArray} {j : Nat} (h : ordUpto l (j + 1)) (hl : lessB (nth l j) (nth l (j + 1)) = true) : ordUpto l (j + 1 + 1) := by
  intro i hi
  by_cases e : i = j
  · subst e; exact hl
  · exact h i (by omega)
theorem ord_no {l : List ByteArray} {j : Nat} (hj : j + 1 < l.length) (hl : lessB (nth l j) (nth l (j + 1)) = false) : inOrd l = false := by
  unfold inOrd
  rw [List.all_eq_false]
  exact ⟨j, List.mem_range.2 (by omega), by rw [hl]; simp⟩
theorem ord_yes {l : List ByteArray} {k : Nat} (h : ordUpto l k) (hk : l.length ≤ k) : inOrd l = true := by
  unfold inOrd
  rw [List.all_eq_true]
  exact fun i hi => h i (by have := List.mem_range.1 hi; omega)

end Go.Proofs.Ytgncimlojbnbfaa.StrB
