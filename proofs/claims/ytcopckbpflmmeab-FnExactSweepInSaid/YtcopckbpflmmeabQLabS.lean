/-
  PROVED: over a slice of strings in memory spec.InOrder and impl.InOrder answer alike, and so do spec.Less and impl.Less over two strings; nothing is changed.
  PROVED: the contracts of spec.LabelOk and impl.LabelOk, of nameLess and labelLess and of what the law calls on a single label: each answers alike for whatever label, and changes nothing that was there.
  PROVED: over slices of labels in memory spec.ValOf and impl.ValOf, spec.SameSet and impl.SameSet, spec.SetLess and impl.SetLess answer alike, each as a plain function on lists says; nothing that was there is changed.
-/
import Derived.Test.YtcopckbpflmmeabRows
import Derived.WalkKit
import Derived.WalkLawsBesides
import Derived.WalkSpells
import Derived.Deep.QuietTactic
import Derived.BigQuiet
import Derived.Below
import Derived.WalkSmall
import Derived.Deep.OwnRows
import Derived.Test.YtcopckbpflmmeabQNames
set_option linter.unusedVariables false
namespace Go.Proofs.Ytcopckbpflmmeab.StrB
open Go.RowKit

def nth (l : List ByteArray) (i : Nat) : ByteArray := l.getD i ByteArray.empty
def Reads (w : World) (a : Option Addr) (l : List ByteArray) : Prop :=
  l = [] ∨ ∃ b off, a = some ⟨b, off, none⟩ ∧ b < w.heap.size ∧ ∀ i, i < l.length → w.cell? ⟨b, off + i, none⟩ = some (.string (nth l i))
theorem Reads.below {w w' : World} {a : Option Addr} {l : List ByteArray} (h : Reads w a l) (hb : Below w.heap.size w w') : Reads w' a l := by
  rcases h with h | ⟨b, off, rfl, hlt, hc⟩
  · exact .inl h
  · exact .inr ⟨b, off, rfl, Nat.lt_of_lt_of_le hlt hb.size, fun i hi => by rw [hb.cell (p := ⟨b, off + i, none⟩) hlt]; exact hc i hi⟩
theorem drew_more {w wr : World} (h : ∃ n, wr = w.drewN n) (m : Nat) : ∃ n, wr.drewN m = w.drewN n := by
  obtain ⟨n, rfl⟩ := h
  exact ⟨n + m, by rw [World.drewN_drewN]⟩
theorem Reads.drew {w wr : World} {a : Option Addr} {l : List ByteArray} (h : Reads w a l) (hw : ∃ n, wr = w.drewN n) : Reads wr a l := by
  obtain ⟨n, rfl⟩ := hw
  exact h
theorem Reads.drewN {w : World} {a : Option Addr} {l : List ByteArray} (h : Reads w a l) (n : Nat) : Reads (w.drewN n) a l := h

theorem retB {a b : Bool} (h : a = b) : Ending.returned (.bool a) = .returned (.bool b) := by rw [h]

def lessB (a b : ByteArray) : Bool := Op.bytesLess a.toList b.toList
theorem implLess_any (a b : ByteArray) (w : World) : Calls Try.prog 77 #[.string a, .string b] w fun e w' => e = .returned (.bool (lessB a b)) ∧ w' = w := by
  go_enter Try.func77, Try.ntmps77
  go_wp2
  go_ret
  exact ⟨rfl, rfl⟩

end Go.Proofs.Ytcopckbpflmmeab.StrB
namespace Go.Proofs.Ytcopckbpflmmeab.Labs
open Go.RowKit
open Names hiding retB
open StrB

theorem beqS_yes {a b : ByteArray} (h : a = b) : (a.toList == b.toList) = true := by rw [h]; exact beq_self_eq_true _
theorem beqS_no {a b : ByteArray} (h : a ≠ b) : (a.toList == b.toList) = false := by
  rw [beq_eq_false_iff_ne]
  intro e
  rw [ByteArray.toList_eq, ByteArray.toList_eq] at e
  exact h (Go.WideShapes.bytes_inj e)
abbrev Lab := ByteArray × ByteArray
def labB (x : Lab) : Bool := nameB x.1 && plainB x.2
theorem nameLess_any (x y : Lab) (w : World) :
    Calls Try.prog 76 #[.agg #[.string x.1, .string x.2], .agg #[.string y.1, .string y.2]] w fun e w' => e = .returned (.bool (lessB x.1 y.1)) ∧ Below w.heap.size w w' := by
  obtain ⟨n, v⟩ := x
  obtain ⟨m, u⟩ := y
  go_enter Try.func76, Try.ntmps76
  go_wp2_with fail
  refine (implLess_any n m _).mono ?_
  rintro e w1 ⟨rfl, rfl⟩
  go_wp2
  go_ret
  exact ⟨rfl, ((Below.refl _ _).alloc (Nat.le_refl _) _).alloc (by simp) _⟩

def llB (x y : Lab) : Bool := if x.1 = y.1 then lessB x.2 y.2 else lessB x.1 y.1
theorem llB_eq {x y : Lab} (h : x.1 = y.1) : llB x y = lessB x.2 y.2 := if_pos h
theorem llB_ne {x y : Lab} (h : x.1 ≠ y.1) : llB x y = lessB x.1 y.1 := if_neg h

theorem labelLess_any (x y : Lab) (w : World) :
    Calls Try.prog 71 #[.agg #[.string x.1, .string x.2], .agg #[.string y.1, .string y.2]] w fun e w' => e = .returned (.bool (llB x y)) ∧ Below w.heap.size w w' := by
  obtain ⟨n, v⟩ := x
  obtain ⟨m, u⟩ := y
  by_cases h : n = m
  · have HL : Hid (llB (n, v) (m, u) = lessB v u) := llB_eq h
    have hd := beqS_yes h
    clear h
    go_enter Try.func71, Try.ntmps71
    go_wp2_with fail
    refine (implLess_any v u _).mono ?_
    rintro e w1 ⟨rfl, rfl⟩
    go_wp2
    go_ret
    exact ⟨retB HL.out.symm, ((Below.refl _ _).alloc (Nat.le_refl _) _).alloc (by simp) _⟩
  · have HL : Hid (llB (n, v) (m, u) = lessB n m) := llB_ne h
    have hd := beqS_no h
    clear h
    go_enter Try.func71, Try.ntmps71
    go_wp2_with fail
    refine (nameLess_any (n, v) (m, u) _).mono ?_
    rintro e w1 ⟨rfl, hb⟩
    go_wp2
    go_ret
    exact ⟨retB HL.out.symm, (((Below.refl _ _).alloc (Nat.le_refl _) _).alloc (by simp) _).trans (hb.mono (by simp; omega))⟩

theorem szLab_any (x : Lab) (left : Int) (w : World) (h1 : x.1.size ≤ maxLen) (h2 : x.2.size ≤ maxLen) (h3 : 0 ≤ left) (h4 : left ≤ 1048576) :
    Calls Try.prog 81 #[.agg #[.string x.1, .string x.2], .int .i64 left] w fun e w' => (∃ n : Int, e = .returned (.int .i64 n) ∧ n ≤ left ∧ (0 ≤ n → n = left - x.1.size - x.2.size)) ∧ Below w.heap.size w w' := by
  obtain ⟨n, v⟩ := x
  have k1 : n.size ≤ 2 ^ 63 - 1 := h1
  have k2 : v.size ≤ 2 ^ 63 - 1 := h2
  clear h1 h2
  by_cases c1 : left - (n.size : Int) < 0
  · go_enter Try.func81, Try.ntmps81
    go_wp2
    go_ret
    exact ⟨⟨-1, rfl, by omega, fun h => by omega⟩, (Below.refl _ _).alloc (Nat.le_refl _) _⟩
  · by_cases c2 : left - (n.size : Int) - (v.size : Int) < 0
    · go_enter Try.func81, Try.ntmps81
      go_wp2
      go_ret
      exact ⟨⟨-1, rfl, by omega, fun h => by omega⟩, (Below.refl _ _).alloc (Nat.le_refl _) _⟩
    · go_enter Try.func81, Try.ntmps81
      go_wp2
      go_ret
      exact ⟨⟨_, rfl, by omega, fun h => rfl⟩, (Below.refl _ _).alloc (Nat.le_refl _) _⟩

theorem toLab_any (x : Lab) (w : World) :
    Calls Try.prog 82 #[.agg #[.string x.1, .string x.2]] w fun e w' => e = .returned (.agg #[.string x.1, .string x.2]) ∧ Below w.heap.size w w' := by
  obtain ⟨n, v⟩ := x
  go_enter Try.func82, Try.ntmps82
  go_wp2
  exact bodyPost_ret (v := .agg #[.string n, .string v]) (by simp [results, Try.results82, go_sem]) rfl ⟨rfl, (((Below.refl _ _).alloc (Nat.le_refl _) _).alloc (by simp) _).alloc (by simp; omega) _⟩

theorem eqLab_any (x y : Lab) (w : World) :
    Calls Try.prog 68 #[.agg #[.string x.1, .string x.2], .agg #[.string y.1, .string y.2]] w fun e w' => e = .returned (.bool (decide (x = y))) ∧ Below w.heap.size w w' := by
  obtain ⟨n, v⟩ := x
  obtain ⟨m, u⟩ := y
  by_cases h : n = m
  · by_cases h2 : v = u
    · have HL : Hid (decide ((n, v) = (m, u)) = true) := by show _ = _; simp [h, h2]
      have hd := beqS_yes h
      have hd2 := beqS_yes h2
      clear h h2
      go_enter Try.func68, Try.ntmps68
      go_wp2
      go_ret
      exact ⟨retB HL.out.symm, ((Below.refl _ _).alloc (Nat.le_refl _) _).alloc (by simp) _⟩
    · have HL : Hid (decide ((n, v) = (m, u)) = false) := by show _ = _; simp [h2]
      have hd := beqS_yes h
      have hd2 := beqS_no h2
      clear h h2
      go_enter Try.func68, Try.ntmps68
      go_wp2
      go_ret
      exact ⟨retB HL.out.symm, ((Below.refl _ _).alloc (Nat.le_refl _) _).alloc (by simp) _⟩
  · have HL : Hid (decide ((n, v) = (m, u)) = false) := by show _ = _; simp [h]
    have hd := beqS_no h
    clear h
    go_enter Try.func68, Try.ntmps68
    go_wp2
    go_ret
    exact ⟨retB HL.out.symm, ((Below.refl _ _).alloc (Nat.le_refl _) _).alloc (by simp) _⟩
end Go.Proofs.Ytcopckbpflmmeab.Labs
namespace Go.Proofs.Ytcopckbpflmmeab.LabS
open Go.RowKit
open StrB Labs

def nth (l : List Lab) (i : Nat) : Lab := l.getD i (ByteArray.empty, ByteArray.empty)
theorem nth_eq {l : List Lab} {i : Nat} (h : i < l.length) : nth l i = l[i] := by unfold nth; simp [h]
def Reads (w : World) (a : Option Addr) (l : List Lab) : Prop :=
  l = [] ∨ ∃ b off, a = some ⟨b, off, none⟩ ∧ b < w.heap.size ∧ ∀ i, i < l.length → w.cell? ⟨b, off + i * 2, none⟩ = some (.string (nth l i).1) ∧ w.cell? ⟨b, off + i * 2 + 1, none⟩ = some (.string (nth l i).2)
theorem Reads.below {w w' : World} {a : Option Addr} {l : List Lab} (h : Reads w a l) (hb : Below w.heap.size w w') : Reads w' a l := by
  rcases h with h | ⟨b, off, rfl, hlt, hc⟩
  · exact .inl h
  · exact .inr ⟨b, off, rfl, Nat.lt_of_lt_of_le hlt hb.size, fun i hi => by rw [hb.cell (p := ⟨b, off + i * 2, none⟩) hlt, hb.cell (p := ⟨b, off + i * 2 + 1, none⟩) hlt]; exact hc i hi⟩
theorem Reads.drew {w wr : World} {a : Option Addr} {l : List Lab} (h : Reads w a l) (hw : ∃ n, wr = w.drewN n) : Reads wr a l := by
  obtain ⟨n, rfl⟩ := hw
  exact h
theorem Reads.get {w : World} {a : Option Addr} {l : List Lab} (h : Reads w a l) {i : Nat} (hi : i < l.length) :
    ∃ b off, a = some ⟨b, off, none⟩ ∧ b < w.heap.size ∧ ∀ i, i < l.length → w.cell? ⟨b, off + i * 2, none⟩ = some (.string (nth l i).1) ∧ w.cell? ⟨b, off + i * 2 + 1, none⟩ = some (.string (nth l i).2) := by
  rcases h with h | h
  · rw [h] at hi; simp at hi
  · exact h

theorem same_of {l m : List Lab} (h : l.length = m.length) (hj : ∀ j, j < l.length → nth l j = nth m j) : l = m := by
  apply List.ext_getElem h
  intro i h1 h2
  have := hj i h1
  rwa [nth_eq h1, nth_eq h2] at this
theorem same_yes {l m : List Lab} (h : l = m) : decide (l = m) = true := by simp [h]
theorem same_no {l m : List Lab} (h : l ≠ m) : decide (l = m) = false := by simp [h]
theorem ne_len {l m : List Lab} (h : l.length ≠ m.length) : l ≠ m := fun e => h (by rw [e])
theorem ne_nth {l m : List Lab} (j : Nat) (h : nth l j ≠ nth m j) : l ≠ m := fun e => h (by rw [e])
end Go.Proofs.Ytcopckbpflmmeab.LabS
