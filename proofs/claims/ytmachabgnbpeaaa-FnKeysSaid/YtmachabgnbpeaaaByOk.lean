/-
  PROVED: over a slice of strings in memory spec.ByOk and impl.ByOk answer alike, as a plain function on lists says; nothing that was there is changed.
-/
import Derived.Test.YtmachabgnbpeaaaStrT
import Derived.Test.YtmachabgnbpeaaaNames
namespace Go.Proofs.Ytmachabgnbpeaaa.ByOk
open Go.RowKit
open Go.Proofs.Ytmachabgnbpeaaa.StrB Go.Proofs.Ytmachabgnbpeaaa.StrT Go.Proofs.Ytmachabgnbpeaaa.Over
open Go.Proofs.Ytmachabgnbpeaaa.Names (nameB specName_any implName_any)
set_option linter.unusedVariables false

/-- whether these are names, at most two, in order -/
def byB (l : List ByteArray) : Bool := decide (l.length ≤ 2) && ((List.range l.length).all (fun i => nameB (nth l i)) && inOrd l)
theorem by_long {l : List ByteArray} (h : 2 < l.length) : byB l = false := by
  have : ¬ l.length ≤ 2 := by omega
  simp [byB, this]
theorem by_bad {l : List ByteArray} {k : Nat} (hk : k < l.length) (h : nameB (nth l k) = false) : byB l = false := by
  have : (List.range l.length).all (fun i => nameB (nth l i)) = false := by
    rw [List.all_eq_false]
    exact ⟨k, List.mem_range.2 hk, by rw [h]; simp⟩
  simp [byB, this]
theorem by_all {l : List ByteArray} (h2 : l.length ≤ 2) (h : ∀ j, j < l.length → nameB (nth l j) = true) : byB l = inOrd l := by
  have : (List.range l.length).all (fun i => nameB (nth l i)) = true := by
    rw [List.all_eq_true]
    exact fun i hi => h i (List.mem_range.1 hi)
  simp [byB, this, h2]

set_option maxHeartbeats 400000 in
theorem specBy_any (a : Option Addr) (cap : Nat) (l : List ByteArray) (w : World) (hr : Reads w a l) (hl : l.length ≤ maxLen) (hz : FitsS l) :
    Calls Try.prog 22 #[.slice a l.length cap] w fun e w' => e = .returned (.bool (byB l)) ∧ Below w.heap.size w w' := by
  have HL : Hid (l.length ≤ maxLen) := hl
  unfold maxLen at hl
  have HR : Hid (Reads w a l) := hr
  have HZ : Hid (FitsS l) := hz
  clear hr hz
  go_enter Try.func22, Try.ntmps22
  go_wp2
  go_loop [3] (fun i => ∃ k : Nat, i = .int .i64 k ∧ k ≤ l.length ∧ ∀ j, j < k → nameB (nth l j) = true) (fun i => l.length - (intOf i).toNat)
  case atStart => exact ⟨0, rfl, Nat.zero_le _, fun j h => by omega⟩
  case round =>
    obtain ⟨k, rfl, hk, hu⟩ := hrel
    have HU : Hid (∀ j, j < k → nameB (nth l j) = true) := hu
    clear hu
    by_cases hlt : k < l.length
    · have hlt' : (k : Int) < (l.length : Int) := by omega
      obtain ⟨b, off, rfl, hb, hc⟩ := Reads.get HR.out hlt
      have h0 := hc k hlt
      have HS : Hid ((nth l k).size ≤ maxLen) := HZ.out k hlt
      clear hc
      cases hp : nameB (nth l k) with
      | false =>
        have HN : Hid (byB l = false) := by_bad hlt hp
        go_wp2_with fail
        refine (specName_any (nth l k) _ HS.out).mono ?_
        rintro e w1 ⟨rfl, rfl⟩
        go_wp2
        go_ret
        exact ⟨retB HN.out.symm, Below.refl _ _⟩
      | true =>
        have HU1 : Hid (∀ j, j < k + 1 → nameB (nth l j) = true) := fun j hj => by
          by_cases e : j = k
          · subst e; exact hp
          · exact HU.out j (by omega)
        go_wp2_with fail
        refine (specName_any (nth l k) _ HS.out).mono ?_
        rintro e w1 ⟨rfl, rfl⟩
        go_wp2
        go_round
        case rel => exact ⟨k + 1, by go_num, by omega, HU1.out⟩
        case measure => simp [intOf]; omega
    · have hge : ¬ (k : Int) < (l.length : Int) := by omega
      by_cases h2 : (l.length : Int) ≤ 2
      · have HY : Hid (byB l = inOrd l) := by_all (by omega) fun j hj => HU.out j (by omega)
        go_wp2_with fail
        refine (specInOrder_any a cap l _ HR.out HL.out).mono ?_
        rintro e w1 ⟨rfl, hw⟩
        have HB : Hid (Below w.heap.size w w1) := bel_drew hw
        clear hw
        go_wp2
        go_ret
        exact ⟨retB HY.out.symm, HB.out⟩
      · have HY : Hid (byB l = false) := by_long (by omega)
        go_wp2
        go_ret
        exact ⟨retB HY.out.symm, Below.refl _ _⟩

set_option maxHeartbeats 400000 in
theorem implBy_any (a : Option Addr) (cap : Nat) (l : List ByteArray) (w : World) (hr : Reads w a l) (hl : l.length ≤ maxLen) (hz : FitsS l) :
    Calls Try.prog 21 #[.slice a l.length cap] w fun e w' => e = .returned (.bool (byB l)) ∧ Below w.heap.size w w' := by
  have HL : Hid (l.length ≤ maxLen) := hl
  unfold maxLen at hl
  have HR : Hid (Reads w a l) := hr
  have HZ : Hid (FitsS l) := hz
  clear hr hz
  by_cases h2 : (2 : Int) < (l.length : Int)
  · have HY : Hid (byB l = false) := by_long (by omega)
    go_enter Try.func21, Try.ntmps21
    go_wp2
    go_ret
    exact ⟨retB HY.out.symm, Below.refl _ _⟩
  · go_enter Try.func21, Try.ntmps21
    go_wp2
    go_loopw [10] (fun i w' => ∃ k : Nat, i = .int .i64 k ∧ k ≤ l.length ∧ (∀ j, j < k → nameB (nth l j) = true) ∧ Below w.heap.size w w') (fun i _ => l.length - (intOf i).toNat)
    case atStart => exact ⟨0, rfl, Nat.zero_le _, fun j h => by omega, Below.refl _ _⟩
    case round =>
      obtain ⟨k, rfl, hk, hu, hw⟩ := hrel
      have HU : Hid (∀ j, j < k → nameB (nth l j) = true) := hu
      have HB : Hid (Below w.heap.size w wr) := hw
      clear hu hw
      by_cases hlt : k < l.length
      · have hlt' : (k : Int) < (l.length : Int) := by omega
        obtain ⟨b, off, rfl, hb, hc⟩ := Reads.get (HR.out.below HB.out) hlt
        have h0 := hc k hlt
        have HS : Hid ((nth l k).size ≤ maxLen) := HZ.out k hlt
        clear hc
        cases hp : nameB (nth l k) with
        | false =>
          have HN : Hid (byB l = false) := by_bad hlt hp
          go_wp2_with fail
          refine (implName_any (nth l k) _ HS.out).mono ?_
          rintro e w1 ⟨rfl, hb1⟩
          have HB1 : Hid (Below w.heap.size w w1) := grow_on HB.out hb1
          clear hb1
          go_wp2
          go_ret
          exact ⟨retB HN.out.symm, HB1.out⟩
        | true =>
          have HU1 : Hid (∀ j, j < k + 1 → nameB (nth l j) = true) := fun j hj => by
            by_cases e : j = k
            · subst e; exact hp
            · exact HU.out j (by omega)
          go_wp2_with fail
          refine (implName_any (nth l k) _ HS.out).mono ?_
          rintro e w1 ⟨rfl, hb1⟩
          have HB1 : Hid (Below w.heap.size w w1) := grow_on HB.out hb1
          clear hb1
          go_wp2
          go_roundw
          case rel => exact ⟨k + 1, by go_num, by omega, HU1.out, HB1.out⟩
          case measure => simp [intOf]; omega
      · have hge : ¬ (k : Int) < (l.length : Int) := by omega
        have HY : Hid (byB l = inOrd l) := by_all (by omega) fun j hj => HU.out j (by omega)
        go_wp2_with fail
        refine (implInOrder_any a cap l _ (HR.out.below HB.out) HL.out).mono ?_
        rintro e w1 ⟨rfl, hw⟩
        have HB1 : Hid (Below w.heap.size w w1) := grow_on HB.out (bel_drew hw)
        clear hw
        go_wp2
        go_ret
        exact ⟨retB HY.out.symm, HB1.out⟩
end Go.Proofs.Ytmachabgnbpeaaa.ByOk
