/-
  PROVED: the contracts of spec.LabelOk and impl.LabelOk, of nameLess and labelLess and of what the law calls on a single label: each answers alike for whatever label, and changes nothing that was there.
  PROVED: over slices of labels in memory spec.ValOf and impl.ValOf, spec.SameSet and impl.SameSet, spec.SetLess and impl.SetLess answer alike, each as a plain function on lists says; nothing that was there is changed.
-/
import Derived.Test.YtgncimlojbnbfaaGreatRows
import Derived.WalkKit
import Derived.WalkLawsBesides
import Derived.WalkSpells
import Derived.Deep.QuietTactic
import Derived.BigQuiet
import Derived.Below
import Derived.WalkSmall
import Derived.Deep.OwnRows
import Derived.Test.YtgncimlojbnbfaaGreatQNames
import Derived.Test.YtgncimlojbnbfaaGreatQStrB
set_option linter.unusedVariables false
namespace Go.Proofs.YtgncimlojbnbfaaGreat.Labs
open Go.RowKit
open Names hiding retB
open StrB

theorem beqS_yes {a b : ByteArray} (h : a = b) : (a.toList == b.toList) = true := by rw [h]; exact beq_self_eq_true _
theorem beqS_no {a b : ByteArray} (h : a ≠ b) : (a.toList == b.toList) = false := by
  rw [beq_eq_false_iff_ne]
  intro e
  rw [ByteArray.toList_eq, ByteArray.toList_eq] at e
  exact h (Go.WideShapes.bytes_inj e)
abbrev Lab := ByteArray × ByteArray
def labB (x : Lab) : Bool := nameB x.1 && plainB x.2
theorem labB_of {x : Lab} {p q : Bool} (h1 : nameB x.1 = p) (h2 : plainB x.2 = q) : labB x = (p && q) := by unfold labB; rw [h1, h2]
theorem labB_no {x : Lab} (h1 : nameB x.1 = false) : labB x = false := by unfold labB; rw [h1]; rfl

theorem specLab_any (x : Lab) (w : World) (h1 : x.1.size ≤ maxLen) (h2 : x.2.size ≤ maxLen) :
    Calls Tryz.prog 107 #[.agg #[.string x.1, .string x.2]] w fun e w' => e = .returned (.bool (labB x)) ∧ Below w.heap.size w w' := by
  obtain ⟨n, v⟩ := x
  have H1 : Hid (n.size ≤ maxLen) := h1
  have H2 : Hid (v.size ≤ maxLen) := h2
  clear h1 h2
  go_enter Tryz.func107, Tryz.ntmps107
  go_wp2_with fail
  refine (specName_any n _ H1.out).mono ?_
  rintro e w1 ⟨rfl, rfl⟩
  cases hn : nameB n with
  | true =>
    go_wp2_with fail
    refine (specPlain_any v _ H2.out).mono ?_
    rintro e w1 ⟨rfl, rfl⟩
    go_wp2
    go_ret
    exact ⟨retB (labB_of (x := (n, v)) hn rfl).symm, (Below.refl _ _).alloc (Nat.le_refl _) _⟩
  | false =>
    go_wp2
    go_ret
    exact ⟨retB (labB_no (x := (n, v)) hn).symm, (Below.refl _ _).alloc (Nat.le_refl _) _⟩

theorem implLab_any (x : Lab) (w : World) (h1 : x.1.size ≤ maxLen) (h2 : x.2.size ≤ maxLen) :
    Calls Tryz.prog 103 #[.agg #[.string x.1, .string x.2]] w fun e w' => e = .returned (.bool (labB x)) ∧ Below w.heap.size w w' := by
  obtain ⟨n, v⟩ := x
  have H1 : Hid (n.size ≤ maxLen) := h1
  have H2 : Hid (v.size ≤ maxLen) := h2
  clear h1 h2
  go_enter Tryz.func103, Tryz.ntmps103
  go_wp2_with fail
  refine (implName_any n _ H1.out).mono ?_
  rintro e w1 ⟨rfl, hb⟩
  have hc : w1.cell? ⟨w.heap.size, 1, none⟩ = some (.string v) := by rw [hb.cell (by simp)]; simp
  have HB : Hid (Below w.heap.size w w1) := ((Below.refl _ _).alloc (Nat.le_refl _) _).trans (hb.mono (by simp))
  clear hb
  cases hn : nameB n with
  | true =>
    go_wp2_with fail
    refine (implPlain_any v _ H2.out).mono ?_
    rintro e w2 ⟨rfl, hb⟩
    have HB2 : Hid (Below w.heap.size w w2) := HB.out.trans (hb.mono HB.out.size)
    clear hb
    go_wp2
    go_ret
    exact ⟨retB (labB_of (x := (n, v)) hn rfl).symm, HB2.out⟩
  | false =>
    go_wp2
    go_ret
    exact ⟨retB (labB_no (x := (n, v)) hn).symm, HB.out⟩

theorem nameLess_any (x y : Lab) (w : World) :
    Calls Tryz.prog 104 #[.agg #[.string x.1, .string x.2], .agg #[.string y.1, .string y.2]] w fun e w' => e = .returned (.bool (lessB x.1 y.1)) ∧ Below w.heap.size w w' := by
  obtain ⟨n, v⟩ := x
  obtain ⟨m, u⟩ := y
  go_enter Tryz.func104, Tryz.ntmps104
  go_wp2_with fail
  refine (implLess_any n m _).mono ?_
  rintro e w1 ⟨rfl, rfl⟩
  go_wp2
  go_ret
  exact ⟨rfl, ((Below.refl _ _).alloc (Nat.le_refl _) _).alloc (by simp) _⟩

def llB (x y : Lab) : Bool := if x.1 = y.1 then lessB x.2 y.2 else lessB x.1 y.1
theorem llB_eq {x y : Lab} (h : x.1 = y.1) : llB x y = lessB x.2 y.2 := if_pos h
theorem llB_ne {x y : Lab} (h : x.1 ≠ y.1) : llB x y = lessB x.1 y.1 := if_neg h

theorem labelLess_any (x y : Lab) (w : World) :
    Calls Tryz.prog 114 #[.agg #[.string x.1, .string x.2], .agg #[.string y.1, .string y.2]] w fun e w' => e = .returned (.bool (llB x y)) ∧ Below w.heap.size w w' := by
  obtain ⟨n, v⟩ := x
  obtain ⟨m, u⟩ := y
  by_cases h : n = m
  · have HL : Hid (llB (n, v) (m, u) = lessB v u) := llB_eq h
    have hd := beqS_yes h
    clear h
    go_enter Tryz.func114, Tryz.ntmps114
    go_wp2_with fail
    refine (implLess_any v u _).mono ?_
    rintro e w1 ⟨rfl, rfl⟩
    go_wp2
    go_ret
    exact ⟨retB HL.out.symm, ((Below.refl _ _).alloc (Nat.le_refl _) _).alloc (by simp) _⟩
  · have HL : Hid (llB (n, v) (m, u) = lessB n m) := llB_ne h
    have hd := beqS_no h
    clear h
    go_enter Tryz.func114, Tryz.ntmps114
    go_wp2_with fail
    refine (nameLess_any (n, v) (m, u) _).mono ?_
    rintro e w1 ⟨rfl, hb⟩
    go_wp2
    go_ret
    exact ⟨retB HL.out.symm, (((Below.refl _ _).alloc (Nat.le_refl _) _).alloc (by simp) _).trans (hb.mono (by simp; omega))⟩

end Go.Proofs.YtgncimlojbnbfaaGreat.Labs
namespace Go.Proofs.YtgncimlojbnbfaaGreat.LabS
open Go.RowKit
open StrB Labs

def nth (l : List Lab) (i : Nat) : Lab := l.getD i (ByteArray.empty, ByteArray.empty)
theorem nth_eq {l : List Lab} {i : Nat} (h : i < l.length) : nth l i = l[i] := by unfold nth; simp [h]
def Reads (w : World) (a : Option Addr) (l : List Lab) : Prop :=
  l = [] ∨ ∃ b off, a = some ⟨b, off, none⟩ ∧ b < w.heap.size ∧ ∀ i, i < l.length → w.cell? ⟨b, off + i * 2, none⟩ = some (.string (nth l i).1) ∧ w.cell? ⟨b, off + i * 2 + 1, none⟩ = some (.string (nth l i).2)
theorem Reads.below {w w' : World} {a : Option Addr} {l : List Lab} (h : Reads w a l) (hb : Below w.heap.size w w') : Reads w' a l := by
  rcases h with h | ⟨b, off, rfl, hlt, hc⟩
  · exact .inl h
  · exact .inr ⟨b, off, rfl, Nat.lt_of_lt_of_le hlt hb.size, fun i hi => by rw [hb.cell (p := ⟨b, off + i * 2, none⟩) hlt, hb.cell (p := ⟨b, off + i * 2 + 1, none⟩) hlt]; exact hc i hi⟩
theorem Reads.drew {w wr : World} {a : Option Addr} {l : List Lab} (h : Reads w a l) (hw : ∃ n, wr = w.drewN n) : Reads wr a l := by
  obtain ⟨n, rfl⟩ := hw
  exact h
theorem Reads.get {w : World} {a : Option Addr} {l : List Lab} (h : Reads w a l) {i : Nat} (hi : i < l.length) :
    ∃ b off, a = some ⟨b, off, none⟩ ∧ b < w.heap.size ∧ ∀ i, i < l.length → w.cell? ⟨b, off + i * 2, none⟩ = some (.string (nth l i).1) ∧ w.cell? ⟨b, off + i * 2 + 1, none⟩ = some (.string (nth l i).2) := by
  rcases h with h | h
  · rw [h] at hi; simp at hi
  · exact h

theorem same_of {l m : List Lab} (h : l.length = m.length) (hj : ∀ j, j < l.length → nth l j = nth m j) : l = m := by
  apply List.ext_getElem h
  intro i h1 h2
  have := hj i h1
  rwa [nth_eq h1, nth_eq h2] at this
theorem same_yes {l m : List Lab} (h : l = m) : decide (l = m) = true := by simp [h]
theorem same_no {l m : List Lab} (h : l ≠ m) : decide (l = m) = false := by simp [h]
theorem ne_len {l m : List Lab} (h : l.length ≠ m.length) : l ≠ m := fun e => h (by rw [e])
theorem ne_nth {l m : List Lab} (j : Nat) (h : nth l j ≠ nth m j) : l ≠ m := fun e => h (by rw [e])
theorem pair_yes {x y : Lab} (h : x = y) : (x.1.toList == y.1.toList) = true ∧ (x.2.toList == y.2.toList) = true := by
  subst h; exact ⟨beqS_yes rfl, beqS_yes rfl⟩
theorem pair_no {x y : Lab} (h : x ≠ y) : (x.1.toList == y.1.toList) = false ∨ ((x.1.toList == y.1.toList) = true ∧ (x.2.toList == y.2.toList) = false) := by
  by_cases h1 : x.1 = y.1
  · right
    exact ⟨beqS_yes h1, beqS_no fun h2 => h (Prod.ext h1 h2)⟩
  · exact .inl (beqS_no h1)

set_option maxHeartbeats 400000 in
theorem specSame_any (a a' : Option Addr) (cap cap' : Nat) (l m : List Lab) (w : World) (hr : Reads w a l) (hr' : Reads w a' m) (hl : l.length ≤ maxLen) (hm : m.length ≤ maxLen) :
    Calls Tryz.prog 49 #[.slice a l.length cap, .slice a' m.length cap'] w fun e w' => e = .returned (.bool (decide (l = m))) ∧ ∃ n, w' = w.drewN n := by
  unfold maxLen at hl hm
  have HR : Hid (Reads w a l) := hr
  have HR' : Hid (Reads w a' m) := hr'
  clear hr hr'
  by_cases hlen : l.length = m.length
  · have hlen' : (l.length : Int) = (m.length : Int) := by omega
    go_enter Tryz.func49, Tryz.ntmps49
    go_wp2
    go_loopw [5] (fun i w' => ∃ k : Nat, i = .int .i64 k ∧ k ≤ l.length ∧ (∀ j, j < k → nth l j = nth m j) ∧ ∃ n, w' = w.drewN n) (fun i _ => l.length - (intOf i).toNat)
    case atStart => exact ⟨0, rfl, Nat.zero_le _, fun j h => by omega, 0, rfl⟩
    case round =>
      obtain ⟨k, rfl, hk, hu, hw0⟩ := hrel
      have HU : Hid (∀ j, j < k → nth l j = nth m j) := hu
      have HW : Hid (∃ n, wr = w.drewN n) := hw0
      have HR1 : Hid (Reads wr a l) := HR.out.drew hw0
      have HR2 : Hid (Reads wr a' m) := HR'.out.drew hw0
      clear hw0 hu
      by_cases hlt : k < l.length
      · have hlt' : (k : Int) < (l.length : Int) := by omega
        have hlt2 : (k : Int) < (m.length : Int) := by omega
        obtain ⟨b, off, rfl, hb, hc⟩ := HR1.out.get hlt
        obtain ⟨b', off', rfl, hb', hc'⟩ := HR2.out.get (i := k) (by omega)
        obtain ⟨h0, h1⟩ := hc k hlt
        obtain ⟨h2, h3⟩ := hc' k (by omega)
        clear hc hc'
        by_cases he : nth l k = nth m k
        · have HU1 : Hid (∀ j, j < k + 1 → nth l j = nth m j) := fun j hj => by
            by_cases e : j = k
            · subst e; exact he
            · exact HU.out j (by omega)
          obtain ⟨d1, d2⟩ := pair_yes he
          clear he
          go_wp2
          go_quiet (fail)
          go_wp2
          go_roundw
          case rel => exact ⟨k + 1, by go_num, by omega, HU1.out, drew_more HW.out _⟩
          case measure => simp [intOf]; omega
        · have HN : Hid (decide (l = m) = false) := same_no (ne_nth k he)
          rcases pair_no he with d1 | ⟨d1, d2⟩
          · clear he
            go_wp2
            go_quiet (fail)
            go_wp2
            go_ret
            exact ⟨retB HN.out.symm, drew_more HW.out _⟩
          · clear he
            go_wp2
            go_quiet (fail)
            go_wp2
            go_ret
            exact ⟨retB HN.out.symm, drew_more HW.out _⟩
      · have hge : ¬ (k : Int) < (l.length : Int) := by omega
        have HY : Hid (decide (l = m) = true) := same_yes (same_of hlen fun j hj => HU.out j (by omega))
        go_wp2
        go_ret
        exact ⟨retB HY.out.symm, HW.out⟩
  · have hlen' : ¬ (l.length : Int) = (m.length : Int) := by omega
    have HN : Hid (decide (l = m) = false) := same_no (ne_len hlen)
    go_enter Tryz.func49, Tryz.ntmps49
    go_wp2
    go_ret
    exact ⟨retB HN.out.symm, 0, rfl⟩
set_option maxHeartbeats 400000 in
theorem equal_any (a a' : Option Addr) (cap cap' : Nat) (l m : List Lab) (w : World) (hr : Reads w a l) (hr' : Reads w a' m) (hl : l.length ≤ maxLen) (hm : m.length ≤ maxLen) :
    Calls Tryz.prog 76 #[.slice a l.length cap, .slice a' m.length cap'] w fun e w' => e = .returned (.bool (decide (l = m))) ∧ ∃ n, w' = w.drewN n := by
  unfold maxLen at hl hm
  have HR : Hid (Reads w a l) := hr
  have HR' : Hid (Reads w a' m) := hr'
  clear hr hr'
  by_cases hlen : l.length = m.length
  · have hlen' : (l.length : Int) = (m.length : Int) := by omega
    go_enter Tryz.func76, Tryz.ntmps76
    go_wp2
    go_loopw [13] (fun i w' => ∃ k : Nat, i = .int .i64 k ∧ k ≤ l.length ∧ (∀ j, j < k → nth l j = nth m j) ∧ ∃ n, w' = w.drewN n) (fun i _ => l.length - (intOf i).toNat)
    case atStart => exact ⟨0, rfl, Nat.zero_le _, fun j h => by omega, 0, rfl⟩
    case round =>
      obtain ⟨k, rfl, hk, hu, hw0⟩ := hrel
      have HU : Hid (∀ j, j < k → nth l j = nth m j) := hu
      have HW : Hid (∃ n, wr = w.drewN n) := hw0
      have HR1 : Hid (Reads wr a l) := HR.out.drew hw0
      have HR2 : Hid (Reads wr a' m) := HR'.out.drew hw0
      clear hw0 hu
      by_cases hlt : k < l.length
      · have hlt' : (k : Int) < (l.length : Int) := by omega
        have hlt2 : (k : Int) < (m.length : Int) := by omega
        obtain ⟨b, off, rfl, hb, hc⟩ := HR1.out.get hlt
        obtain ⟨b', off', rfl, hb', hc'⟩ := HR2.out.get (i := k) (by omega)
        obtain ⟨h0, h1⟩ := hc k hlt
        obtain ⟨h2, h3⟩ := hc' k (by omega)
        clear hc hc'
        by_cases he : nth l k = nth m k
        · have HU1 : Hid (∀ j, j < k + 1 → nth l j = nth m j) := fun j hj => by
            by_cases e : j = k
            · subst e; exact he
            · exact HU.out j (by omega)
          obtain ⟨d1, d2⟩ := pair_yes he
          clear he
          go_wp2
          go_quiet (fail)
          go_wp2
          go_roundw
          case rel => exact ⟨k + 1, by go_num, by omega, HU1.out, drew_more HW.out _⟩
          case measure => simp [intOf]; omega
        · have HN : Hid (decide (l = m) = false) := same_no (ne_nth k he)
          rcases pair_no he with d1 | ⟨d1, d2⟩
          · clear he
            go_wp2
            go_quiet (fail)
            go_wp2
            go_ret
            exact ⟨retB HN.out.symm, drew_more HW.out _⟩
          · clear he
            go_wp2
            go_quiet (fail)
            go_wp2
            go_ret
            exact ⟨retB HN.out.symm, drew_more HW.out _⟩
      · have hge : ¬ (k : Int) < (l.length : Int) := by omega
        have HY : Hid (decide (l = m) = true) := same_yes (same_of hlen fun j hj => HU.out j (by omega))
        go_wp2
        go_ret
        exact ⟨retB HY.out.symm, HW.out⟩
  · have hlen' : ¬ (l.length : Int) = (m.length : Int) := by omega
    have HN : Hid (decide (l = m) = false) := same_no (ne_len hlen)
    go_enter Tryz.func76, Tryz.ntmps76
    go_wp2
    go_ret
    exact ⟨retB HN.out.symm, 0, rfl⟩
theorem implSame_any (a a' : Option Addr) (cap cap' : Nat) (l m : List Lab) (w : World) (hr : Reads w a l) (hr' : Reads w a' m) (hl : l.length ≤ maxLen) (hm : m.length ≤ maxLen) :
    Calls Tryz.prog 44 #[.slice a l.length cap, .slice a' m.length cap'] w fun e w' => e = .returned (.bool (decide (l = m))) ∧ ∃ n, w' = w.drewN n := by
  have hq := equal_any a a' cap cap' l m w hr hr' hl hm
  have HQ : Hid (Calls Tryz.prog 76 #[.slice a l.length cap, .slice a' m.length cap'] w fun e w' => e = .returned (.bool (decide (l = m))) ∧ ∃ n, w' = w.drewN n) := hq
  clear hq hr hr'
  go_enter Tryz.func44, Tryz.ntmps44
  go_wp2_with fail
  refine HQ.out.mono ?_
  rintro e w1 ⟨rfl, n, rfl⟩
  go_wp2
  go_ret
  exact ⟨rfl, n, rfl⟩
end Go.Proofs.YtgncimlojbnbfaaGreat.LabS
