/-
  PROVED: the contracts of the functions that FnExactInOrder calls, over slices of strings: the size that szStringS counts, the copy that toStringS makes, whether eqStringS finds two copies alike, and that spec.InOrder and impl.InOrder answer alike.
-/
import Derived.Test.YtmbejfbbolicfajRows
import Derived.WalkKit
import Derived.WalkLawsBesides
import Derived.WalkSpells
import Derived.Deep.QuietTactic
import Derived.BigQuiet
import Derived.Below
import Derived.WalkSmall
import Derived.Deep.OwnRows
namespace Go.Proofs.Ytmbejfbbolicfaj.Strs
open Go.RowKit
set_option linter.unusedVariables false

/-- the i-th one, kept from being taken apart -/
def nth (l : List ByteArray) (i : Nat) : ByteArray := l.getD i ByteArray.empty
/-- a slice's cells hold these strings -/
def Reads (w : World) (a : Option Addr) (l : List ByteArray) : Prop :=
  l = [] ∨ ∃ b off, a = some ⟨b, off, none⟩ ∧ b < w.heap.size ∧ ∀ i, i < l.length → w.cell? ⟨b, off + i, none⟩ = some (.string (nth l i))
theorem Reads.below {w w' : World} {a : Option Addr} {l : List ByteArray} (h : Reads w a l) (hb : Below w.heap.size w w') : Reads w' a l := by
  rcases h with h | ⟨b, off, rfl, hlt, hc⟩
  · exact .inl h
  · exact .inr ⟨b, off, rfl, Nat.lt_of_lt_of_le hlt hb.size, fun i hi => by rw [hb.cell (p := ⟨b, off + i, none⟩) hlt]; exact hc i hi⟩
theorem drew_more {w wr : World} (h : ∃ n, wr = w.drewN n) (m : Nat) : ∃ n, wr.drewN m = w.drewN n := by
  obtain ⟨n, rfl⟩ := h
  exact ⟨n + m, by rw [World.drewN_drewN]⟩
theorem Reads.drew {w wr : World} {a : Option Addr} {l : List ByteArray} (h : Reads w a l) (hw : ∃ n, wr = w.drewN n) : Reads wr a l := by
  obtain ⟨n, rfl⟩ := hw
  exact h
theorem Reads.drewN {w : World} {a : Option Addr} {l : List ByteArray} (h : Reads w a l) (n : Nat) : Reads (w.drewN n) a l := h

theorem retB {a b : Bool} (h : a = b) : Ending.returned (.bool a) = .returned (.bool b) := by rw [h]

def lessB (a b : ByteArray) : Bool := Op.bytesLess a.toList b.toList
theorem specLess_any (a b : ByteArray) (w : World) : Calls Try.prog 10 #[.string a, .string b] w fun e w' => e = .returned (.bool (lessB a b)) ∧ w' = w := by
  go_enter Try.func10, Try.ntmps10
  go_wp2
  go_ret
  exact ⟨rfl, rfl⟩
theorem implLess_any (a b : ByteArray) (w : World) : Calls Try.prog 11 #[.string a, .string b] w fun e w' => e = .returned (.bool (lessB a b)) ∧ w' = w := by
  go_enter Try.func11, Try.ntmps11
  go_wp2
  go_ret
  exact ⟨rfl, rfl⟩

def ordUpto (l : List ByteArray) (k : Nat) : Prop := ∀ i, i + 1 < k → lessB (nth l i) (nth l (i + 1)) = true
def inOrd (l : List ByteArray) : Bool := (List.range (l.length - 1)).all fun i => lessB (nth l i) (nth l (i + 1))
theorem ord_one (l : List ByteArray) : ordUpto l 1 := fun i h => by omega
theorem ord_succ {l : List ByteArray} {j : Nat} (h : ordUpto l (j + 1)) (hl : lessB (nth l j) (nth l (j + 1)) = true) : ordUpto l (j + 1 + 1) := by
  intro i hi
  by_cases e : i = j
  · subst e; exact hl
  · exact h i (by omega)
theorem ord_no {l : List ByteArray} {j : Nat} (hj : j + 1 < l.length) (hl : lessB (nth l j) (nth l (j + 1)) = false) : inOrd l = false := by
  unfold inOrd
  rw [List.all_eq_false]
  exact ⟨j, List.mem_range.2 (by omega), by rw [hl]; simp⟩
theorem ord_yes {l : List ByteArray} {k : Nat} (h : ordUpto l k) (hk : l.length ≤ k) : inOrd l = true := by
  unfold inOrd
  rw [List.all_eq_true]
  exact fun i hi => h i (by have := List.mem_range.1 hi; omega)

set_option maxHeartbeats 400000 in
theorem specInOrder_any (a : Option Addr) (cap : Nat) (l : List ByteArray) (w : World) (hr : Reads w a l) (hl : l.length ≤ maxLen) :
    Calls Try.prog 13 #[.slice a l.length cap] w fun e w' => e = .returned (.bool (inOrd l)) ∧ ∃ n, w' = w.drewN n := by
  unfold maxLen at hl
  have HR : Hid (Reads w a l) := hr
  clear hr
  go_enter Try.func13, Try.ntmps13
  go_wp2
  go_loopw [3] (fun i w' => ∃ j : Nat, i = .int .i64 ((j : Int) + 1) ∧ (j = 0 ∨ j + 1 ≤ l.length) ∧ ordUpto l (j + 1) ∧ ∃ n, w' = w.drewN n) (fun i _ => l.length + 1 - (intOf i).toNat)
  case atStart => exact ⟨0, rfl, .inl rfl, ord_one l, 0, rfl⟩
  case round =>
    obtain ⟨j, rfl, hj, hu, hw0⟩ := hrel
    have HU : Hid (ordUpto l (j + 1)) := hu
    have HW : Hid (∃ n, wr = w.drewN n) := hw0
    have HR1 : Hid (Reads wr a l) := HR.out.drew hw0
    clear hu hw0
    by_cases hlt : j + 1 < l.length
    · have hlt' : (j : Int) + 1 < (l.length : Int) := by omega
      obtain ⟨b, off, rfl, hb, hc⟩ : ∃ b off, a = some ⟨b, off, none⟩ ∧ b < wr.heap.size ∧ ∀ i, i < l.length → wr.cell? ⟨b, off + i, none⟩ = some (.string (nth l i)) := by
        rcases HR1.out with h | h
        · rw [h] at hlt; simp at hlt
        · exact h
      have h0 := hc j (by omega)
      have h1 := hc (j + 1) (by omega)
      have hw : IntKind.i64.wrap (j : Int) = (j : Int) := by rw [IntKind.wrap_i64]; omega
      have hj0 : (j : Int) < (l.length : Int) := by omega
      have hj1 : (0 : Int) ≤ (j : Int) := by omega
      have hj2 : (0 : Int) ≤ (j : Int) + 1 := by omega
      clear hc
      cases hp : lessB (nth l j) (nth l (j + 1)) with
      | true =>
        have HU1 : Hid (ordUpto l (j + 1 + 1)) := ord_succ HU.out hp
        go_wp2
        go_quiet ((go_at_call 10; exact Calls.quiet_of_same (specLess_any _ _ _)))
        go_wp2
        go_roundw
        case rel => exact ⟨j + 1, by go_num, .inr (by omega), HU1.out, drew_more HW.out _⟩
        case measure => simp [intOf]; omega
      | false =>
        have HN : Hid (inOrd l = false) := ord_no hlt hp
        go_wp2
        go_quiet ((go_at_call 10; exact Calls.quiet_of_same (specLess_any _ _ _)))
        go_wp2
        go_ret
        exact ⟨retB HN.out.symm, drew_more HW.out _⟩
    · have hge : ¬ (j : Int) + 1 < (l.length : Int) := by omega
      have HY : Hid (inOrd l = true) := ord_yes HU.out (by omega)
      go_wp2
      go_ret
      exact ⟨retB HY.out.symm, HW.out⟩
set_option maxHeartbeats 400000 in
theorem implInOrder_any (a : Option Addr) (cap : Nat) (l : List ByteArray) (w : World) (hr : Reads w a l) (hl : l.length ≤ maxLen) :
    Calls Try.prog 15 #[.slice a l.length cap] w fun e w' => e = .returned (.bool (inOrd l)) ∧ ∃ n, w' = w.drewN n := by
  unfold maxLen at hl
  have HR : Hid (Reads w a l) := hr
  clear hr
  go_enter Try.func15, Try.ntmps15
  go_wp2
  go_loopw [3] (fun i w' => ∃ j : Nat, i = .int .i64 ((j : Int) + 1) ∧ (j = 0 ∨ j + 1 ≤ l.length) ∧ ordUpto l (j + 1) ∧ ∃ n, w' = w.drewN n) (fun i _ => l.length + 1 - (intOf i).toNat)
  case atStart => exact ⟨0, rfl, .inl rfl, ord_one l, 0, rfl⟩
  case round =>
    obtain ⟨j, rfl, hj, hu, hw0⟩ := hrel
    have HU : Hid (ordUpto l (j + 1)) := hu
    have HW : Hid (∃ n, wr = w.drewN n) := hw0
    have HR1 : Hid (Reads wr a l) := HR.out.drew hw0
    clear hu hw0
    by_cases hlt : j + 1 < l.length
    · have hlt' : (j : Int) + 1 < (l.length : Int) := by omega
      obtain ⟨b, off, rfl, hb, hc⟩ : ∃ b off, a = some ⟨b, off, none⟩ ∧ b < wr.heap.size ∧ ∀ i, i < l.length → wr.cell? ⟨b, off + i, none⟩ = some (.string (nth l i)) := by
        rcases HR1.out with h | h
        · rw [h] at hlt; simp at hlt
        · exact h
      have h0 := hc j (by omega)
      have h1 := hc (j + 1) (by omega)
      have hw : IntKind.i64.wrap (j : Int) = (j : Int) := by rw [IntKind.wrap_i64]; omega
      have hj0 : (j : Int) < (l.length : Int) := by omega
      have hj1 : (0 : Int) ≤ (j : Int) := by omega
      have hj2 : (0 : Int) ≤ (j : Int) + 1 := by omega
      clear hc
      cases hp : lessB (nth l j) (nth l (j + 1)) with
      | true =>
        have HU1 : Hid (ordUpto l (j + 1 + 1)) := ord_succ HU.out hp
        go_wp2
        go_quiet ((go_at_call 11; exact Calls.quiet_of_same (implLess_any _ _ _)))
        go_wp2
        go_roundw
        case rel => exact ⟨j + 1, by go_num, .inr (by omega), HU1.out, drew_more HW.out _⟩
        case measure => simp [intOf]; omega
      | false =>
        have HN : Hid (inOrd l = false) := ord_no hlt hp
        go_wp2
        go_quiet ((go_at_call 11; exact Calls.quiet_of_same (implLess_any _ _ _)))
        go_wp2
        go_ret
        exact ⟨retB HN.out.symm, drew_more HW.out _⟩
    · have hge : ¬ (j : Int) + 1 < (l.length : Int) := by omega
      have HY : Hid (inOrd l = true) := ord_yes HU.out (by omega)
      go_wp2
      go_ret
      exact ⟨retB HY.out.symm, HW.out⟩

set_option maxHeartbeats 400000 in
theorem sz_any (a : Option Addr) (cap : Nat) (l : List ByteArray) (left : Int) (w : World) (hr : Reads w a l) (hl : l.length ≤ maxLen) (hz : ∀ i, i < l.length → (nth l i).size ≤ maxLen) (h0 : 0 ≤ left) (h1 : left ≤ 1048576) :
    Calls Try.prog 12 #[.slice a l.length cap, .int .i64 left] w fun e w' => (∃ n, e = .returned (.int .i64 n) ∧ (0 ≤ n → (l.length : Int) ≤ left)) ∧ w' = w := by
  unfold maxLen at hl hz
  have HR : Hid (Reads w a l) := hr
  have HZ : Hid (∀ i, i < l.length → (nth l i).size ≤ 2 ^ 63 - 1) := hz
  clear hr hz
  by_cases c : left - (l.length : Int) < 0
  · go_enter Try.func12, Try.ntmps12
    go_wp2
    go_ret
    exact ⟨⟨-1, rfl, fun h => by omega⟩, rfl⟩
  · go_enter Try.func12, Try.ntmps12
    go_wp2
    go_loop [1, 5] (fun m i => ∃ (k : Nat) (x : Int), k ≤ l.length ∧ i = .int .i64 k ∧ m = .int .i64 x ∧ 0 ≤ x ∧ x ≤ 1048576) (fun _ i => l.length - (intOf i).toNat)
    case atStart => exact ⟨0, _, Nat.zero_le _, rfl, rfl, by omega, by omega⟩
    case round =>
      obtain ⟨k, x, hk, rfl, rfl, hx0, hx1⟩ := hrel
      by_cases hlt : k < l.length
      · have hlt' : (k : Int) < (l.length : Int) := by omega
        obtain ⟨b, off, rfl, hb, hc⟩ : ∃ b off, a = some ⟨b, off, none⟩ ∧ b < w.heap.size ∧ ∀ i, i < l.length → w.cell? ⟨b, off + i, none⟩ = some (.string (nth l i)) := by
          rcases HR.out with h | h
          · rw [h] at hlt; simp at hlt
          · exact h
        have hck := hc k hlt
        have hsz := HZ.out k hlt
        clear hc
        by_cases hn : x - ((nth l k).size : Int) < 0
        · go_wp2
          go_ret
          exact ⟨⟨-1, rfl, fun h => by omega⟩, rfl⟩
        · go_wp2
          go_round
          case rel => exact ⟨k + 1, _, by omega, by go_num, rfl, by omega, by omega⟩
          case measure => simp [intOf]; omega
      · have hge : ¬ (k : Int) < (l.length : Int) := by omega
        go_wp2
        go_ret
        exact ⟨⟨_, rfl, fun h => by omega⟩, rfl⟩

theorem infoS : (Try.prog.info? 9).map (fun i => (i.zero, i.size, i.bytes)) = some (some (.string ByteArray.empty), 1, 16) := by kernel_rfl

set_option maxHeartbeats 400000 in
theorem to_any (a : Option Addr) (cap : Nat) (l : List ByteArray) (w : World) (hr : Reads w a l) (hl : l.length ≤ 1048576) :
    Calls Try.prog 14 #[.slice a l.length cap] w fun e w' => (∃ c, e = .returned (.slice c l.length l.length) ∧ Reads w' c l) ∧ Below w.heap.size w w' := by
  have HR : Hid (Reads w a l) := hr
  clear hr
  have hmk := run_make_row' (P := Try.prog) 26 9 (.string ByteArray.empty) 16 Try.underlying26 infoS rfl .i64 .i64 l.length (by omega) (by omega)
  go_enter Try.func14, Try.ntmps14
  go_wp2
  go_loopw [4] (fun i w' => ∃ (k : Nat) (cs : Array Value), k ≤ l.length ∧ i = .int .i64 k ∧ w' = w.alloc (.cells cs 9) ∧ cs.size = l.length ∧ ∀ j, j < k → cs[j]? = some (.string (nth l j))) (fun i _ => l.length - (intOf i).toNat)
  case atStart => exact ⟨0, _, Nat.zero_le _, rfl, rfl, by simp [size_madeCells], fun j h => by omega⟩
  case round =>
    obtain ⟨k, cs, hk, rfl, rfl, hcs, hdone⟩ := hrel
    have HD : Hid (∀ j, j < k → cs[j]? = some (.string (nth l j))) := hdone
    have HC : Hid (cs.size = l.length) := hcs
    clear hdone hcs
    by_cases hlt : k < l.length
    · have hlt' : (k : Int) < (l.length : Int) := by omega
      obtain ⟨b, off, rfl, hb, hc⟩ : ∃ b off, a = some ⟨b, off, none⟩ ∧ b < w.heap.size ∧ ∀ i, i < l.length → w.cell? ⟨b, off + i, none⟩ = some (.string (nth l i)) := by
        rcases HR.out with h | h
        · rw [h] at hlt; simp at hlt
        · exact h
      have hck := hc k hlt
      clear hc
      obtain ⟨v0, hv0⟩ : ∃ v, cs[k]? = some v := ⟨cs[k]'(by rw [HC.out]; exact hlt), by simp [HC.out, hlt]⟩
      go_wp2
      go_roundw
      case rel =>
        refine ⟨k + 1, _, by omega, by go_num, rfl, by simp [HC.out], fun j hj => ?_⟩
        by_cases e : j = k
        · subst e; simp [HC.out, hlt]
        · rw [Array.getElem?_setIfInBounds_ne (by omega)]; exact HD.out j (by omega)
      case measure => simp [intOf]; omega
    · have hge : ¬ (k : Int) < (l.length : Int) := by omega
      have HK : Hid (k = l.length) := by show k = l.length; omega
      go_wp2
      go_ret
      refine ⟨⟨_, rfl, .inr ⟨w.heap.size, 0, rfl, by simp, fun i hi => ?_⟩⟩, (Below.refl _ _).alloc (Nat.le_refl _) _⟩
      rw [World.cell?_alloc_new]
      simp only [Nat.zero_add]
      exact HD.out i (by rw [HK.out]; exact hi)

set_option maxHeartbeats 400000 in
theorem eq_any (a : Option Addr) (cap : Nat) (a' : Option Addr) (cap' : Nat) (l : List ByteArray) (w : World) (hr : Reads w a l) (hr' : Reads w a' l) (hl : l.length ≤ maxLen) :
    Calls Try.prog 16 #[.slice a l.length cap, .slice a' l.length cap'] w fun e w' => e = .returned (.bool true) ∧ ∃ n, w' = w.drewN n := by
  unfold maxLen at hl
  have HR : Hid (Reads w a l) := hr
  have HR' : Hid (Reads w a' l) := hr'
  clear hr hr'
  go_enter Try.func16, Try.ntmps16
  go_wp2
  go_loopw [5] (fun i w' => ∃ k : Nat, i = .int .i64 k ∧ k ≤ l.length ∧ ∃ n, w' = w.drewN n) (fun i _ => l.length - (intOf i).toNat)
  case atStart => exact ⟨0, rfl, Nat.zero_le _, 0, rfl⟩
  case round =>
    obtain ⟨k, rfl, hk, hw0⟩ := hrel
    have HW : Hid (∃ n, wr = w.drewN n) := hw0
    have HR1 : Hid (Reads wr a l) := HR.out.drew hw0
    have HR2 : Hid (Reads wr a' l) := HR'.out.drew hw0
    clear hw0
    by_cases hlt : k < l.length
    · have hlt' : (k : Int) < (l.length : Int) := by omega
      obtain ⟨b, off, rfl, hb, hc⟩ : ∃ b off, a = some ⟨b, off, none⟩ ∧ b < wr.heap.size ∧ ∀ i, i < l.length → wr.cell? ⟨b, off + i, none⟩ = some (.string (nth l i)) := by
        rcases HR1.out with h | h
        · rw [h] at hlt; simp at hlt
        · exact h
      obtain ⟨b', off', rfl, hb', hc'⟩ : ∃ b off, a' = some ⟨b, off, none⟩ ∧ b < wr.heap.size ∧ ∀ i, i < l.length → wr.cell? ⟨b, off + i, none⟩ = some (.string (nth l i)) := by
        rcases HR2.out with h | h
        · rw [h] at hlt; simp at hlt
        · exact h
      have h0 := hc k hlt
      have h1 := hc' k hlt
      clear hc hc'
      go_wp2
      go_quiet (fail)
      go_wp2
      go_roundw
      case rel => exact ⟨k + 1, by go_num, by omega, drew_more HW.out _⟩
      case measure => simp [intOf]; omega
    · have hge : ¬ (k : Int) < (l.length : Int) := by omega
      go_wp2
      go_ret
      exact ⟨rfl, HW.out⟩
end Go.Proofs.Ytmbejfbbolicfaj.Strs
