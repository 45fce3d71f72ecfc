/-
  PROVED: the contracts of spec.LabelOk and impl.LabelOk, of nameLess and labelLess and of what the law calls on a single label: each answers alike for whatever label, and changes nothing that was there.
-/
import Derived.Test.YtgncimlojbnbfaaRows
import Derived.WalkKit
import Derived.WalkLawsBesides
import Derived.WalkSpells
import Derived.Deep.QuietTactic
import Derived.BigQuiet
import Derived.Below
import Derived.WalkSmall
import Derived.Deep.OwnRows
import Derived.Test.YtgncimlojbnbfaaNames
import Derived.Test.YtgncimlojbnbfaaStrB
namespace Go.Proofs.Ytgncimlojbnbfaa.Labs
open Go.RowKit
open Go.Proofs.Ytgncimlojbnbfaa.Names hiding retB
open Go.Proofs.Ytgncimlojbnbfaa.StrB
set_option linter.unusedVariables false

theorem beqS_yes {a b : ByteArray} (h : a = b) : (a.toList == b.toList) = true := by rw [h]; exact beq_self_eq_true _
theorem beqS_no {a b : ByteArray} (h : a ≠ b) : (a.toList == b.toList) = false := by
  rw [beq_eq_false_iff_ne]
  intro e
  rw [ByteArray.toList_eq, ByteArray.toList_eq] at e
  exact h (Go.WideShapes.bytes_inj e)
/-- a label: its name and its value -/
abbrev Lab := ByteArray × ByteArray
def labB (x : Lab) : Bool := nameB x.1 && plainB x.2
theorem labB_of {x : Lab} {p q : Bool} (h1 : nameB x.1 = p) (h2 : plainB x.2 = q) : labB x = (p && q) := by unfold labB; rw [h1, h2]
theorem labB_no {x : Lab} (h1 : nameB x.1 = false) : labB x = false := by unfold labB; rw [h1]; rfl

theorem specLab_any (x : Lab) (w : World) (h1 : x.1.size ≤ maxLen) (h2 : x.2.size ≤ maxLen) :
    Calls Try.prog 93 #[.agg #[.string x.1, .string x.2]] w fun e w' => e = .returned (.bool (labB x)) ∧ Below w.heap.size w w' := by
  obtain ⟨n, v⟩ := x
  have H1 : Hid (n.size ≤ maxLen) := h1
  have H2 : Hid (v.size ≤ maxLen) := h2
  clear h1 h2
  go_enter Try.func93, Try.ntmps93
  go_wp2_with fail
  refine (specName_any n _ H1.out).mono ?_
  rintro e w1 ⟨rfl, rfl⟩
  cases hn : nameB n with
  | true =>
    go_wp2_with fail
    refine (specPlain_any v _ H2.out).mono ?_
    rintro e w1 ⟨rfl, rfl⟩
    go_wp2
    go_ret
    exact ⟨retB (labB_of (x := (n, v)) hn rfl).symm, (Below.refl _ _).alloc (Nat.le_refl _) _⟩
  | false =>
    go_wp2
    go_ret
    exact ⟨retB (labB_no (x := (n, v)) hn).symm, (Below.refl _ _).alloc (Nat.le_refl _) _⟩

theorem implLab_any (x : Lab) (w : World) (h1 : x.1.size ≤ maxLen) (h2 : x.2.size ≤ maxLen) :
    Calls Try.prog 94 #[.agg #[.string x.1, .string x.2]] w fun e w' => e = .returned (.bool (labB x)) ∧ Below w.heap.size w w' := by
  obtain ⟨n, v⟩ := x
  have H1 : Hid (n.size ≤ maxLen) := h1
  have H2 : Hid (v.size ≤ maxLen) := h2
  clear h1 h2
  go_enter Try.func94, Try.ntmps94
  go_wp2_with fail
  refine (implName_any n _ H1.out).mono ?_
  rintro e w1 ⟨rfl, hb⟩
  have hc : w1.cell? ⟨w.heap.size, 1, none⟩ = some (.string v) := by rw [hb.cell (by simp)]; simp
  have HB : Hid (Below w.heap.size w w1) := ((Below.refl _ _).alloc (Nat.le_refl _) _).trans (hb.mono (by simp))
  clear hb
  cases hn : nameB n with
  | true =>
    go_wp2_with fail
    refine (implPlain_any v _ H2.out).mono ?_
    rintro e w2 ⟨rfl, hb⟩
    have HB2 : Hid (Below w.heap.size w w2) := HB.out.trans (hb.mono HB.out.size)
    clear hb
    go_wp2
    go_ret
    exact ⟨retB (labB_of (x := (n, v)) hn rfl).symm, HB2.out⟩
  | false =>
    go_wp2
    go_ret
    exact ⟨retB (labB_no (x := (n, v)) hn).symm, HB.out⟩

theorem nameLess_any (x y : Lab) (w : World) :
    Calls Try.prog 95 #[.agg #[.string x.1, .string x.2], .agg #[.string y.1, .string y.2]] w fun e w' => e = .returned (.bool (lessB x.1 y.1)) ∧ Below w.heap.size w w' := by
  obtain ⟨n, v⟩ := x
  obtain ⟨m, u⟩ := y
  go_enter Try.func95, Try.ntmps95
  go_wp2_with fail
  refine (implLess_any n m _).mono ?_
  rintro e w1 ⟨rfl, rfl⟩
  go_wp2
  go_ret
  exact ⟨rfl, ((Below.refl _ _).alloc (Nat.le_refl _) _).alloc (by simp) _⟩

/-- whether one label is ahead of another -/
def llB (x y : Lab) : Bool := if x.1 = y.1 then lessB x.2 y.2 else lessB x.1 y.1
theorem llB_eq {x y : Lab} (h : x.1 = y.1) : llB x y = lessB x.2 y.2 := if_pos h
theorem llB_ne {x y : Lab} (h : x.1 ≠ y.1) : llB x y = lessB x.1 y.1 := if_neg h

theorem labelLess_any (x y : Lab) (w : World) :
    Calls Try.prog 113 #[.agg #[.string x.1, .string x.2], .agg #[.string y.1, .string y.2]] w fun e w' => e = .returned (.bool (llB x y)) ∧ Below w.heap.size w w' := by
  obtain ⟨n, v⟩ := x
  obtain ⟨m, u⟩ := y
  by_cases h : n = m
  · have HL : Hid (llB (n, v) (m, u) = lessB v u) := llB_eq h
    have hd := beqS_yes h
    clear h
    go_enter Try.func113, Try.ntmps113
    go_wp2_with fail
    refine (implLess_any v u _).mono ?_
    rintro e w1 ⟨rfl, rfl⟩
    go_wp2
    go_ret
    exact ⟨retB HL.out.symm, ((Below.refl _ _).alloc (Nat.le_refl _) _).alloc (by simp) _⟩
  · have HL : Hid (llB (n, v) (m, u) = lessB n m) := llB_ne h
    have hd := beqS_no h
    clear h
    go_enter Try.func113, Try.ntmps113
    go_wp2_with fail
    refine (nameLess_any (n, v) (m, u) _).mono ?_
    rintro e w1 ⟨rfl, hb⟩
    go_wp2
    go_ret
    exact ⟨retB HL.out.symm, (((Below.refl _ _).alloc (Nat.le_refl _) _).alloc (by simp) _).trans (hb.mono (by simp; omega))⟩

theorem szLab_any (x : Lab) (left : Int) (w : World) (h1 : x.1.size ≤ maxLen) (h2 : x.2.size ≤ maxLen) (h3 : 0 ≤ left) (h4 : left ≤ 1048576) :
    Calls Try.prog 43 #[.agg #[.string x.1, .string x.2], .int .i64 left] w fun e w' => (∃ n : Int, e = .returned (.int .i64 n) ∧ n ≤ left ∧ (0 ≤ n → n = left - x.1.size - x.2.size)) ∧ Below w.heap.size w w' := by
  obtain ⟨n, v⟩ := x
  have k1 : n.size ≤ 2 ^ 63 - 1 := h1
  have k2 : v.size ≤ 2 ^ 63 - 1 := h2
  clear h1 h2
  by_cases c1 : left - (n.size : Int) < 0
  · go_enter Try.func43, Try.ntmps43
    go_wp2
    go_ret
    exact ⟨⟨-1, rfl, by omega, fun h => by omega⟩, (Below.refl _ _).alloc (Nat.le_refl _) _⟩
  · by_cases c2 : left - (n.size : Int) - (v.size : Int) < 0
    · go_enter Try.func43, Try.ntmps43
      go_wp2
      go_ret
      exact ⟨⟨-1, rfl, by omega, fun h => by omega⟩, (Below.refl _ _).alloc (Nat.le_refl _) _⟩
    · go_enter Try.func43, Try.ntmps43
      go_wp2
      go_ret
      exact ⟨⟨_, rfl, by omega, fun h => rfl⟩, (Below.refl _ _).alloc (Nat.le_refl _) _⟩

theorem toLab_any (x : Lab) (w : World) :
    Calls Try.prog 44 #[.agg #[.string x.1, .string x.2]] w fun e w' => e = .returned (.agg #[.string x.1, .string x.2]) ∧ Below w.heap.size w w' := by
  obtain ⟨n, v⟩ := x
  go_enter Try.func44, Try.ntmps44
  go_wp2
  exact bodyPost_ret (v := .agg #[.string n, .string v]) (by simp [results, Try.results44, go_sem]) rfl ⟨rfl, (((Below.refl _ _).alloc (Nat.le_refl _) _).alloc (by simp) _).alloc (by simp; omega) _⟩

theorem eqLab_any (x y : Lab) (w : World) :
    Calls Try.prog 48 #[.agg #[.string x.1, .string x.2], .agg #[.string y.1, .string y.2]] w fun e w' => e = .returned (.bool (decide (x = y))) ∧ Below w.heap.size w w' := by
  obtain ⟨n, v⟩ := x
  obtain ⟨m, u⟩ := y
  by_cases h : n = m
  · by_cases h2 : v = u
    · have HL : Hid (decide ((n, v) = (m, u)) = true) := by show _ = _; simp [h, h2]
      have hd := beqS_yes h
      have hd2 := beqS_yes h2
      clear h h2
      go_enter Try.func48, Try.ntmps48
      go_wp2
      go_ret
      exact ⟨retB HL.out.symm, ((Below.refl _ _).alloc (Nat.le_refl _) _).alloc (by simp) _⟩
    · have HL : Hid (decide ((n, v) = (m, u)) = false) := by show _ = _; simp [h2]
      have hd := beqS_yes h
      have hd2 := beqS_no h2
      clear h h2
      go_enter Try.func48, Try.ntmps48
      go_wp2
      go_ret
      exact ⟨retB HL.out.symm, ((Below.refl _ _).alloc (Nat.le_refl _) _).alloc (by simp) _⟩
  · have HL : Hid (decide ((n, v) = (m, u)) = false) := by show _ = _; simp [h]
    have hd := beqS_no h
    clear h
    go_enter Try.func48, Try.ntmps48
    go_wp2
    go_ret
    exact ⟨retB HL.out.symm, ((Below.refl _ _).alloc (Nat.le_refl _) _).alloc (by simp) _⟩
end Go.Proofs.Ytgncimlojbnbfaa.Labs
