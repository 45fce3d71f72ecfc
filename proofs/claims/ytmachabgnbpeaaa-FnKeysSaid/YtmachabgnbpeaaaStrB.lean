/-
  PROVED: over a slice of strings in memory spec.InOrder and impl.InOrder answer alike, and so do spec.Less and impl.Less over two strings; nothing is changed.
-/
import Derived.Test.YtmachabgnbpeaaaRows
import Derived.WalkKit
import Derived.WalkLawsBesides
import Derived.WalkSpells
import Derived.Deep.QuietTactic
import Derived.BigQuiet
import Derived.Below
import Derived.WalkSmall
import Derived.Deep.OwnRows
namespace Go.Proofs.Ytmachabgnbpeaaa.StrB
open Go.RowKit
set_option linter.unusedVariables false

/-- the i-th one, kept from being taken apart -/
def nth (l : List ByteArray) (i : Nat) : ByteArray := l.getD i ByteArray.empty
/-- a slice's cells hold these strings -/
def Reads (w : World) (a : Option Addr) (l : List ByteArray) : Prop :=
  l = [] ∨ ∃ b off, a = some ⟨b, off, none⟩ ∧ b < w.heap.size ∧ ∀ i, i < l.length → w.cell? ⟨b, off + i, none⟩ = some (.string (nth l i))
theorem Reads.below {w w' : World} {a : Option Addr} {l : List ByteArray} (h : Reads w a l) (hb : Below w.heap.size w w') : Reads w' a l := by
  rcases h with h | ⟨b, off, rfl, hlt, hc⟩
  · exact .inl h
  · exact .inr ⟨b, off, rfl, Nat.lt_of_lt_of_le hlt hb.size, fun i hi => by rw [hb.cell (p := ⟨b, off + i, none⟩) hlt]; exact hc i hi⟩
theorem drew_more {w wr : World} (h : ∃ n, wr = w.drewN n) (m : Nat) : ∃ n, wr.drewN m = w.drewN n := by
  obtain ⟨n, rfl⟩ := h
  exact ⟨n + m, by rw [World.drewN_drewN]⟩
theorem Reads.drew {w wr : World} {a : Option Addr} {l : List ByteArray} (h : Reads w a l) (hw : ∃ n, wr = w.drewN n) : Reads wr a l := by
  obtain ⟨n, rfl⟩ := hw
  exact h
theorem Reads.drewN {w : World} {a : Option Addr} {l : List ByteArray} (h : Reads w a l) (n : Nat) : Reads (w.drewN n) a l := h

theorem retB {a b : Bool} (h : a = b) : Ending.returned (.bool a) = .returned (.bool b) := by rw [h]

def lessB (a b : ByteArray) : Bool := Op.bytesLess a.toList b.toList
theorem specLess_any (a b : ByteArray) (w : World) : Calls Try.prog 83 #[.string a, .string b] w fun e w' => e = .returned (.bool (lessB a b)) ∧ w' = w := by
  go_enter Try.func83, Try.ntmps83
  go_wp2
  go_ret
  exact ⟨rfl, rfl⟩
theorem implLess_any (a b : ByteArray) (w : World) : Calls Try.prog 81 #[.string a, .string b] w fun e w' => e = .returned (.bool (lessB a b)) ∧ w' = w := by
  go_enter Try.func81, Try.ntmps81
  go_wp2
  go_ret
  exact ⟨rfl, rfl⟩

def ordUpto (l : List ByteArray) (k : Nat) : Prop := ∀ i, i + 1 < k → lessB (nth l i) (nth l (i + 1)) = true
def inOrd (l : List ByteArray) : Bool := (List.range (l.length - 1)).all fun i => lessB (nth l i) (nth l (i + 1))
theorem ord_one (l : List ByteArray) : ordUpto l 1 := fun i h => by omega
theorem ord_succ {l : List ByteArray} {j : Nat} (h : ordUpto l (j + 1)) (hl : lessB (nth l j) (nth l (j + 1)) = true) : ordUpto l (j + 1 + 1) := by
  intro i hi
  by_cases e : i = j
  · subst e; exact hl
  · exact h i (by omega)
theorem ord_no {l : List ByteArray} {j : Nat} (hj : j + 1 < l.length) (hl : lessB (nth l j) (nth l (j + 1)) = false) : inOrd l = false := by
  unfold inOrd
  rw [List.all_eq_false]
  exact ⟨j, List.mem_range.2 (by omega), by rw [hl]; simp⟩
theorem ord_yes {l : List ByteArray} {k : Nat} (h : ordUpto l k) (hk : l.length ≤ k) : inOrd l = true := by
  unfold inOrd
  rw [List.all_eq_true]
  exact fun i hi => h i (by have := List.mem_range.1 hi; omega)

set_option maxHeartbeats 400000 in
theorem specInOrder_any (a : Option Addr) (cap : Nat) (l : List ByteArray) (w : World) (hr : Reads w a l) (hl : l.length ≤ maxLen) :
    Calls Try.prog 63 #[.slice a l.length cap] w fun e w' => e = .returned (.bool (inOrd l)) ∧ ∃ n, w' = w.drewN n := by
  unfold maxLen at hl
  have HR : Hid (Reads w a l) := hr
  clear hr
  go_enter Try.func63, Try.ntmps63
  go_wp2
  go_loopw [3] (fun i w' => ∃ j : Nat, i = .int .i64 ((j : Int) + 1) ∧ (j = 0 ∨ j + 1 ≤ l.length) ∧ ordUpto l (j + 1) ∧ ∃ n, w' = w.drewN n) (fun i _ => l.length + 1 - (intOf i).toNat)
  case atStart => exact ⟨0, rfl, .inl rfl, ord_one l, 0, rfl⟩
  case round =>
    obtain ⟨j, rfl, hj, hu, hw0⟩ := hrel
    have HU : Hid (ordUpto l (j + 1)) := hu
    have HW : Hid (∃ n, wr = w.drewN n) := hw0
    have HR1 : Hid (Reads wr a l) := HR.out.drew hw0
    clear hu hw0
    by_cases hlt : j + 1 < l.length
    · have hlt' : (j : Int) + 1 < (l.length : Int) := by omega
      obtain ⟨b, off, rfl, hb, hc⟩ : ∃ b off, a = some ⟨b, off, none⟩ ∧ b < wr.heap.size ∧ ∀ i, i < l.length → wr.cell? ⟨b, off + i, none⟩ = some (.string (nth l i)) := by
        rcases HR1.out with h | h
        · rw [h] at hlt; simp at hlt
        · exact h
      have h0 := hc j (by omega)
      have h1 := hc (j + 1) (by omega)
      have hw : IntKind.i64.wrap (j : Int) = (j : Int) := by rw [IntKind.wrap_i64]; omega
      have hj0 : (j : Int) < (l.length : Int) := by omega
      have hj1 : (0 : Int) ≤ (j : Int) := by omega
      have hj2 : (0 : Int) ≤ (j : Int) + 1 := by omega
      clear hc
      cases hp : lessB (nth l j) (nth l (j + 1)) with
      | true =>
        have HU1 : Hid (ordUpto l (j + 1 + 1)) := ord_succ HU.out hp
        go_wp2
        go_quiet ((go_at_call 83; exact Calls.quiet_of_same (specLess_any _ _ _)))
        go_wp2
        go_roundw
        case rel => exact ⟨j + 1, by go_num, .inr (by omega), HU1.out, drew_more HW.out _⟩
        case measure => simp [intOf]; omega
      | false =>
        have HN : Hid (inOrd l = false) := ord_no hlt hp
        go_wp2
        go_quiet ((go_at_call 83; exact Calls.quiet_of_same (specLess_any _ _ _)))
        go_wp2
        go_ret
        exact ⟨retB HN.out.symm, drew_more HW.out _⟩
    · have hge : ¬ (j : Int) + 1 < (l.length : Int) := by omega
      have HY : Hid (inOrd l = true) := ord_yes HU.out (by omega)
      go_wp2
      go_ret
      exact ⟨retB HY.out.symm, HW.out⟩
set_option maxHeartbeats 400000 in
theorem implInOrder_any (a : Option Addr) (cap : Nat) (l : List ByteArray) (w : World) (hr : Reads w a l) (hl : l.length ≤ maxLen) :
    Calls Try.prog 61 #[.slice a l.length cap] w fun e w' => e = .returned (.bool (inOrd l)) ∧ ∃ n, w' = w.drewN n := by
  unfold maxLen at hl
  have HR : Hid (Reads w a l) := hr
  clear hr
  go_enter Try.func61, Try.ntmps61
  go_wp2
  go_loopw [3] (fun i w' => ∃ j : Nat, i = .int .i64 ((j : Int) + 1) ∧ (j = 0 ∨ j + 1 ≤ l.length) ∧ ordUpto l (j + 1) ∧ ∃ n, w' = w.drewN n) (fun i _ => l.length + 1 - (intOf i).toNat)
  case atStart => exact ⟨0, rfl, .inl rfl, ord_one l, 0, rfl⟩
  case round =>
    obtain ⟨j, rfl, hj, hu, hw0⟩ := hrel
    have HU : Hid (ordUpto l (j + 1)) := hu
    have HW : Hid (∃ n, wr = w.drewN n) := hw0
    have HR1 : Hid (Reads wr a l) := HR.out.drew hw0
    clear hu hw0
    by_cases hlt : j + 1 < l.length
    · have hlt' : (j : Int) + 1 < (l.length : Int) := by omega
      obtain ⟨b, off, rfl, hb, hc⟩ : ∃ b off, a = some ⟨b, off, none⟩ ∧ b < wr.heap.size ∧ ∀ i, i < l.length → wr.cell? ⟨b, off + i, none⟩ = some (.string (nth l i)) := by
        rcases HR1.out with h | h
        · rw [h] at hlt; simp at hlt
        · exact h
      have h0 := hc j (by omega)
      have h1 := hc (j + 1) (by omega)
      have hw : IntKind.i64.wrap (j : Int) = (j : Int) := by rw [IntKind.wrap_i64]; omega
      have hj0 : (j : Int) < (l.length : Int) := by omega
      have hj1 : (0 : Int) ≤ (j : Int) := by omega
      have hj2 : (0 : Int) ≤ (j : Int) + 1 := by omega
      clear hc
      cases hp : lessB (nth l j) (nth l (j + 1)) with
      | true =>
        have HU1 : Hid (ordUpto l (j + 1 + 1)) := ord_succ HU.out hp
        go_wp2
        go_quiet ((go_at_call 81; exact Calls.quiet_of_same (implLess_any _ _ _)))
        go_wp2
        go_roundw
        case rel => exact ⟨j + 1, by go_num, .inr (by omega), HU1.out, drew_more HW.out _⟩
        case measure => simp [intOf]; omega
      | false =>
        have HN : Hid (inOrd l = false) := ord_no hlt hp
        go_wp2
        go_quiet ((go_at_call 81; exact Calls.quiet_of_same (implLess_any _ _ _)))
        go_wp2
        go_ret
        exact ⟨retB HN.out.symm, drew_more HW.out _⟩
    · have hge : ¬ (j : Int) + 1 < (l.length : Int) := by omega
      have HY : Hid (inOrd l = true) := ord_yes HU.out (by omega)
      go_wp2
      go_ret
      exact ⟨retB HY.out.symm, HW.out⟩
end Go.Proofs.Ytmachabgnbpeaaa.StrB
