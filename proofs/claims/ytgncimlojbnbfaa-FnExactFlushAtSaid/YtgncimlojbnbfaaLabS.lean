/-
  PROVED: over slices of labels in memory spec.ValOf and impl.ValOf, spec.SameSet and impl.SameSet, spec.SetLess and impl.SetLess answer alike, each as a plain function on lists says; nothing that was there is changed.
-/
import Derived.Test.YtgncimlojbnbfaaLabs
namespace Go.Proofs.Ytgncimlojbnbfaa.LabS
open Go.RowKit
open Go.Proofs.Ytgncimlojbnbfaa.StrB Go.Proofs.Ytgncimlojbnbfaa.Labs
set_option linter.unusedVariables false

def nth (l : List Lab) (i : Nat) : Lab := l.getD i (ByteArray.empty, ByteArray.empty)
theorem nth_eq {l : List Lab} {i : Nat} (h : i < l.length) : nth l i = l[i] := by unfold nth; simp [h]
/-- a slice's cells hold these labels -/
def Reads (w : World) (a : Option Addr) (l : List Lab) : Prop :=
  l = [] ∨ ∃ b off, a = some ⟨b, off, none⟩ ∧ b < w.heap.size ∧ ∀ i, i < l.length → w.cell? ⟨b, off + i * 2, none⟩ = some (.string (nth l i).1) ∧ w.cell? ⟨b, off + i * 2 + 1, none⟩ = some (.string (nth l i).2)
theorem Reads.below {w w' : World} {a : Option Addr} {l : List Lab} (h : Reads w a l) (hb : Below w.heap.size w w') : Reads w' a l := by
  rcases h with h | ⟨b, off, rfl, hlt, hc⟩
  · exact .inl h
  · exact .inr ⟨b, off, rfl, Nat.lt_of_lt_of_le hlt hb.size, fun i hi => by rw [hb.cell (p := ⟨b, off + i * 2, none⟩) hlt, hb.cell (p := ⟨b, off + i * 2 + 1, none⟩) hlt]; exact hc i hi⟩
theorem Reads.drew {w wr : World} {a : Option Addr} {l : List Lab} (h : Reads w a l) (hw : ∃ n, wr = w.drewN n) : Reads wr a l := by
  obtain ⟨n, rfl⟩ := hw
  exact h
theorem Reads.get {w : World} {a : Option Addr} {l : List Lab} (h : Reads w a l) {i : Nat} (hi : i < l.length) :
    ∃ b off, a = some ⟨b, off, none⟩ ∧ b < w.heap.size ∧ ∀ i, i < l.length → w.cell? ⟨b, off + i * 2, none⟩ = some (.string (nth l i).1) ∧ w.cell? ⟨b, off + i * 2 + 1, none⟩ = some (.string (nth l i).2) := by
  rcases h with h | h
  · rw [h] at hi; simp at hi
  · exact h

/-- what ValOf answers -/
def valOf : List Lab → ByteArray → ByteArray × Bool
  | [], _ => (ByteArray.empty, false)
  | x :: l, n => if x.1 = n then (x.2, true) else valOf l n
theorem nth_succ (x : Lab) (l : List Lab) (i : Nat) : nth (x :: l) (i + 1) = nth l i := rfl
theorem val_hit : ∀ {l : List Lab} {n : ByteArray} {k : Nat}, (∀ j, j < k → (nth l j).1 ≠ n) → k < l.length → (nth l k).1 = n → valOf l n = ((nth l k).2, true)
  | [], n, k, _, h, _ => by simp at h
  | x :: l, n, 0, _, _, h => by have h' : x.1 = n := h; simp [valOf, h', nth]
  | x :: l, n, k + 1, hj, hk, h => by
    have h0 : x.1 ≠ n := hj 0 (by omega)
    rw [valOf, if_neg h0, val_hit (k := k) (fun j h => hj (j + 1) (by omega)) (by simpa using hk) h]
    rfl
theorem val_miss : ∀ {l : List Lab} {n : ByteArray}, (∀ j, j < l.length → (nth l j).1 ≠ n) → valOf l n = (ByteArray.empty, false)
  | [], _, _ => rfl
  | x :: l, n, h => by
    have h0 : x.1 ≠ n := h 0 (by simp)
    rw [valOf, if_neg h0]
    exact val_miss fun j hj => h (j + 1) (by simpa using hj)
theorem retV {p q : ByteArray × Bool} (h : p = q) : Ending.returned (.tuple #[.string p.1, .bool p.2]) = .returned (.tuple #[.string q.1, .bool q.2]) := by rw [h]

theorem same_of {l m : List Lab} (h : l.length = m.length) (hj : ∀ j, j < l.length → nth l j = nth m j) : l = m := by
  apply List.ext_getElem h
  intro i h1 h2
  have := hj i h1
  rwa [nth_eq h1, nth_eq h2] at this
theorem same_yes {l m : List Lab} (h : l = m) : decide (l = m) = true := by simp [h]
theorem same_no {l m : List Lab} (h : l ≠ m) : decide (l = m) = false := by simp [h]
theorem ne_len {l m : List Lab} (h : l.length ≠ m.length) : l ≠ m := fun e => h (by rw [e])
theorem ne_nth {l m : List Lab} (j : Nat) (h : nth l j ≠ nth m j) : l ≠ m := fun e => h (by rw [e])
theorem pair_yes {x y : Lab} (h : x = y) : (x.1.toList == y.1.toList) = true ∧ (x.2.toList == y.2.toList) = true := by
  subst h; exact ⟨beqS_yes rfl, beqS_yes rfl⟩
theorem pair_no {x y : Lab} (h : x ≠ y) : (x.1.toList == y.1.toList) = false ∨ ((x.1.toList == y.1.toList) = true ∧ (x.2.toList == y.2.toList) = false) := by
  by_cases h1 : x.1 = y.1
  · right
    exact ⟨beqS_yes h1, beqS_no fun h2 => h (Prod.ext h1 h2)⟩
  · exact .inl (beqS_no h1)

set_option maxHeartbeats 400000 in
theorem specSame_any (a a' : Option Addr) (cap cap' : Nat) (l m : List Lab) (w : World) (hr : Reads w a l) (hr' : Reads w a' m) (hl : l.length ≤ maxLen) (hm : m.length ≤ maxLen) :
    Calls Try.prog 39 #[.slice a l.length cap, .slice a' m.length cap'] w fun e w' => e = .returned (.bool (decide (l = m))) ∧ ∃ n, w' = w.drewN n := by
  unfold maxLen at hl hm
  have HR : Hid (Reads w a l) := hr
  have HR' : Hid (Reads w a' m) := hr'
  clear hr hr'
  by_cases hlen : l.length = m.length
  · have hlen' : (l.length : Int) = (m.length : Int) := by omega
    go_enter Try.func39, Try.ntmps39
    go_wp2
    go_loopw [5] (fun i w' => ∃ k : Nat, i = .int .i64 k ∧ k ≤ l.length ∧ (∀ j, j < k → nth l j = nth m j) ∧ ∃ n, w' = w.drewN n) (fun i _ => l.length - (intOf i).toNat)
    case atStart => exact ⟨0, rfl, Nat.zero_le _, fun j h => by omega, 0, rfl⟩
    case round =>
      obtain ⟨k, rfl, hk, hu, hw0⟩ := hrel
      have HU : Hid (∀ j, j < k → nth l j = nth m j) := hu
      have HW : Hid (∃ n, wr = w.drewN n) := hw0
      have HR1 : Hid (Reads wr a l) := HR.out.drew hw0
      have HR2 : Hid (Reads wr a' m) := HR'.out.drew hw0
      clear hw0 hu
      by_cases hlt : k < l.length
      · have hlt' : (k : Int) < (l.length : Int) := by omega
        have hlt2 : (k : Int) < (m.length : Int) := by omega
        obtain ⟨b, off, rfl, hb, hc⟩ := HR1.out.get hlt
        obtain ⟨b', off', rfl, hb', hc'⟩ := HR2.out.get (i := k) (by omega)
        obtain ⟨h0, h1⟩ := hc k hlt
        obtain ⟨h2, h3⟩ := hc' k (by omega)
        clear hc hc'
        by_cases he : nth l k = nth m k
        · have HU1 : Hid (∀ j, j < k + 1 → nth l j = nth m j) := fun j hj => by
            by_cases e : j = k
            · subst e; exact he
            · exact HU.out j (by omega)
          obtain ⟨d1, d2⟩ := pair_yes he
          clear he
          go_wp2
          go_quiet (fail)
          go_wp2
          go_roundw
          case rel => exact ⟨k + 1, by go_num, by omega, HU1.out, drew_more HW.out _⟩
          case measure => simp [intOf]; omega
        · have HN : Hid (decide (l = m) = false) := same_no (ne_nth k he)
          rcases pair_no he with d1 | ⟨d1, d2⟩
          · clear he
            go_wp2
            go_quiet (fail)
            go_wp2
            go_ret
            exact ⟨retB HN.out.symm, drew_more HW.out _⟩
          · clear he
            go_wp2
            go_quiet (fail)
            go_wp2
            go_ret
            exact ⟨retB HN.out.symm, drew_more HW.out _⟩
      · have hge : ¬ (k : Int) < (l.length : Int) := by omega
        have HY : Hid (decide (l = m) = true) := same_yes (same_of hlen fun j hj => HU.out j (by omega))
        go_wp2
        go_ret
        exact ⟨retB HY.out.symm, HW.out⟩
  · have hlen' : ¬ (l.length : Int) = (m.length : Int) := by omega
    have HN : Hid (decide (l = m) = false) := same_no (ne_len hlen)
    go_enter Try.func39, Try.ntmps39
    go_wp2
    go_ret
    exact ⟨retB HN.out.symm, 0, rfl⟩
set_option maxHeartbeats 400000 in
theorem equal_any (a a' : Option Addr) (cap cap' : Nat) (l m : List Lab) (w : World) (hr : Reads w a l) (hr' : Reads w a' m) (hl : l.length ≤ maxLen) (hm : m.length ≤ maxLen) :
    Calls Try.prog 75 #[.slice a l.length cap, .slice a' m.length cap'] w fun e w' => e = .returned (.bool (decide (l = m))) ∧ ∃ n, w' = w.drewN n := by
  unfold maxLen at hl hm
  have HR : Hid (Reads w a l) := hr
  have HR' : Hid (Reads w a' m) := hr'
  clear hr hr'
  by_cases hlen : l.length = m.length
  · have hlen' : (l.length : Int) = (m.length : Int) := by omega
    go_enter Try.func75, Try.ntmps75
    go_wp2
    go_loopw [13] (fun i w' => ∃ k : Nat, i = .int .i64 k ∧ k ≤ l.length ∧ (∀ j, j < k → nth l j = nth m j) ∧ ∃ n, w' = w.drewN n) (fun i _ => l.length - (intOf i).toNat)
    case atStart => exact ⟨0, rfl, Nat.zero_le _, fun j h => by omega, 0, rfl⟩
    case round =>
      obtain ⟨k, rfl, hk, hu, hw0⟩ := hrel
      have HU : Hid (∀ j, j < k → nth l j = nth m j) := hu
      have HW : Hid (∃ n, wr = w.drewN n) := hw0
      have HR1 : Hid (Reads wr a l) := HR.out.drew hw0
      have HR2 : Hid (Reads wr a' m) := HR'.out.drew hw0
      clear hw0 hu
      by_cases hlt : k < l.length
      · have hlt' : (k : Int) < (l.length : Int) := by omega
        have hlt2 : (k : Int) < (m.length : Int) := by omega
        obtain ⟨b, off, rfl, hb, hc⟩ := HR1.out.get hlt
        obtain ⟨b', off', rfl, hb', hc'⟩ := HR2.out.get (i := k) (by omega)
        obtain ⟨h0, h1⟩ := hc k hlt
        obtain ⟨h2, h3⟩ := hc' k (by omega)
        clear hc hc'
        by_cases he : nth l k = nth m k
        · have HU1 : Hid (∀ j, j < k + 1 → nth l j = nth m j) := fun j hj => by
            by_cases e : j = k
            · subst e; exact he
            · exact HU.out j (by omega)
          obtain ⟨d1, d2⟩ := pair_yes he
          clear he
          go_wp2
          go_quiet (fail)
          go_wp2
          go_roundw
          case rel => exact ⟨k + 1, by go_num, by omega, HU1.out, drew_more HW.out _⟩
          case measure => simp [intOf]; omega
        · have HN : Hid (decide (l = m) = false) := same_no (ne_nth k he)
          rcases pair_no he with d1 | ⟨d1, d2⟩
          · clear he
            go_wp2
            go_quiet (fail)
            go_wp2
            go_ret
            exact ⟨retB HN.out.symm, drew_more HW.out _⟩
          · clear he
            go_wp2
            go_quiet (fail)
            go_wp2
            go_ret
            exact ⟨retB HN.out.symm, drew_more HW.out _⟩
      · have hge : ¬ (k : Int) < (l.length : Int) := by omega
        have HY : Hid (decide (l = m) = true) := same_yes (same_of hlen fun j hj => HU.out j (by omega))
        go_wp2
        go_ret
        exact ⟨retB HY.out.symm, HW.out⟩
  · have hlen' : ¬ (l.length : Int) = (m.length : Int) := by omega
    have HN : Hid (decide (l = m) = false) := same_no (ne_len hlen)
    go_enter Try.func75, Try.ntmps75
    go_wp2
    go_ret
    exact ⟨retB HN.out.symm, 0, rfl⟩
theorem implSame_any (a a' : Option Addr) (cap cap' : Nat) (l m : List Lab) (w : World) (hr : Reads w a l) (hr' : Reads w a' m) (hl : l.length ≤ maxLen) (hm : m.length ≤ maxLen) :
    Calls Try.prog 47 #[.slice a l.length cap, .slice a' m.length cap'] w fun e w' => e = .returned (.bool (decide (l = m))) ∧ ∃ n, w' = w.drewN n := by
  have hq := equal_any a a' cap cap' l m w hr hr' hl hm
  have HQ : Hid (Calls Try.prog 75 #[.slice a l.length cap, .slice a' m.length cap'] w fun e w' => e = .returned (.bool (decide (l = m))) ∧ ∃ n, w' = w.drewN n) := hq
  clear hq hr hr'
  go_enter Try.func47, Try.ntmps47
  go_wp2_with fail
  refine HQ.out.mono ?_
  rintro e w1 ⟨rfl, n, rfl⟩
  go_wp2
  go_ret
  exact ⟨rfl, n, rfl⟩
end Go.Proofs.Ytgncimlojbnbfaa.LabS
