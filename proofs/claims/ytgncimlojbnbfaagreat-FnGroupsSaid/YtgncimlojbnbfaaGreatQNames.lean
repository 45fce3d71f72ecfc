/-
  PROVED: the contracts of spec.NameOk, impl.NameOk, spec.PlainOk and impl.PlainOk at every string: each answers whether all bytes are of the kind that the document names and how many there are.
-/
import Derived.Test.YtgncimlojbnbfaaGreatRows
import Derived.WalkKit
import Derived.WalkLawsBesides
import Derived.WalkSpells
import Derived.Lib.Bytes
import Derived.Laws.RangeAny
import Derived.Below
set_option linter.unusedVariables false
namespace Go.Proofs.YtgncimlojbnbfaaGreat.Names
open Go.RowKit

def inB (x a b : Int) : Bool := decide (a ≤ x ∧ x ≤ b)
theorem inB_true {x a b : Int} (h1 : a ≤ x) (h2 : x ≤ b) : inB x a b = true := by simp [inB, h1, h2]
theorem inB_false {x a b : Int} (h : ¬ (a ≤ x ∧ x ≤ b)) : inB x a b = false := by simp [inB]; omega
def plB (r : Int) : Bool := decide (32 ≤ r ∧ r ≤ 126 ∧ r ≠ 34 ∧ r ≠ 92)
theorem plB_true {r : Int} (h : 32 ≤ r ∧ r ≤ 126 ∧ r ≠ 34 ∧ r ≠ 92) : plB r = true := by simp [plB]; omega
theorem plB_false {r : Int} (h : ¬ (32 ≤ r ∧ r ≤ 126 ∧ r ≠ 34 ∧ r ≠ 92)) : plB r = false := by simp [plB]; omega
def ltB (r : Int) : Bool := inB r 97 122
theorem retB {a b : Bool} (h : a = b) : Ending.returned (.bool a) = .returned (.bool b) := by rw [h]

def allP (p : Int → Bool) (s : ByteArray) : Bool := s.data.toList.all fun c => p (c.toNat : Int)
def upto (p : Int → Bool) (s : ByteArray) (k : Nat) : Prop := ∀ c ∈ s.data.toList.take k, p (c.toNat : Int) = true
theorem upto_zero (p : Int → Bool) (s : ByteArray) : upto p s 0 := by simp [upto]
theorem upto_succ {p : Int → Bool} {s : ByteArray} {k : Nat} (h : k < s.size) (hu : upto p s k) (hp : p (s[k].toNat : Int) = true) : upto p s (k + 1) := by
  intro c hm
  have e : s.data.toList.take (k + 1) = s.data.toList.take k ++ [s[k]] := by
    rw [List.take_succ_eq_append_getElem (by simpa using h)]; rfl
  rw [e, List.mem_append] at hm
  rcases hm with hm | hm
  · exact hu c hm
  · simp at hm; subst hm; exact hp
theorem all_yes {p : Int → Bool} {s : ByteArray} {k : Nat} (h : ¬ k < s.size) (hu : upto p s k) : allP p s = true := by
  unfold allP
  rw [List.all_eq_true]
  intro c hc
  exact hu c (by rw [List.take_of_length_le (by simp; omega)]; exact hc)
theorem all_no {p : Int → Bool} {s : ByteArray} {k : Nat} (h : k < s.size) (hp : p (s[k].toNat : Int) = false) : allP p s = false := by
  unfold allP
  rw [List.all_eq_false]
  refine ⟨s[k], ?_, by rw [hp]; simp⟩
  have : s[k] = s.data.toList[k]'(by simpa using h) := rfl
  rw [this]; exact List.getElem_mem _

theorem empty_yes {s : ByteArray} (h : s.size = 0) : s.toList.isEmpty = true := by
  have : s.data.toList = [] := List.length_eq_zero_iff.1 (by simpa using h)
  rw [Lib.toList_data, this]; rfl
theorem empty_no {s : ByteArray} (h : ¬ s.size = 0) : s.toList.isEmpty = false := by
  rw [Lib.toList_data]
  cases e : s.data.toList with
  | nil => have : s.data.toList.length = s.size := by simp
           rw [e] at this; simp at this; omega
  | cons a l => rfl

theorem l1In_any (x a b : Int) (w : World) :
    Calls Tryz.prog 83 #[.int .i64 x, .int .i64 a, .int .i64 b] w fun e w' => e = .returned (.bool (inB x a b)) ∧ w' = w := by
  by_cases h1 : a ≤ x
  · by_cases h2 : x ≤ b
    · go_enter Tryz.func83, Tryz.ntmps83
      go_wp2
      go_ret
      exact ⟨retB (inB_true h1 h2).symm, rfl⟩
    · go_enter Tryz.func83, Tryz.ntmps83
      go_wp2
      go_ret
      exact ⟨retB (inB_false (by omega)).symm, rfl⟩
  · go_enter Tryz.func83, Tryz.ntmps83
    go_wp2
    go_ret
    exact ⟨retB (inB_false (by omega)).symm, rfl⟩

theorem letter_any (x : Int) (w : World) :
    Calls Tryz.prog 138 #[.int .i32 x] w fun e w' => e = .returned (.bool (ltB x)) ∧ w' = w := by
  unfold ltB
  by_cases h1 : 97 ≤ x
  · by_cases h2 : x ≤ 122
    · go_enter Tryz.func138, Tryz.ntmps138
      go_wp2
      go_ret
      exact ⟨retB (inB_true h1 h2).symm, rfl⟩
    · go_enter Tryz.func138, Tryz.ntmps138
      go_wp2
      go_ret
      exact ⟨retB (inB_false (by omega)).symm, rfl⟩
  · go_enter Tryz.func138, Tryz.ntmps138
    go_wp2
    go_ret
    exact ⟨retB (inB_false (by omega)).symm, rfl⟩

theorem plain_any (x : Int) (w : World) :
    Calls Tryz.prog 139 #[.int .i32 x] w fun e w' => e = .returned (.bool (plB x)) ∧ w' = w := by
  by_cases h1 : 32 ≤ x
  · by_cases h2 : x ≤ 126
    · by_cases h3 : x = 34
      · have h3' : (x != 34) = false := by simp [h3]
        have HB : Hid (plB x = false) := plB_false (by omega)
        clear h3
        go_enter Tryz.func139, Tryz.ntmps139
        go_wp2
        go_ret
        exact ⟨retB HB.out.symm, rfl⟩
      · have h3' : (x != 34) = true := by simpa using h3
        by_cases h4 : x = 92
        · have h4' : (x != 92) = false := by simp [h4]
          have HB : Hid (plB x = false) := plB_false (by omega)
          clear h3 h4
          go_enter Tryz.func139, Tryz.ntmps139
          go_wp2
          go_ret
          exact ⟨retB HB.out.symm, rfl⟩
        · have h4' : (x != 92) = true := by simpa using h4
          have HB : Hid (plB x = true) := plB_true (by omega)
          clear h3 h4
          go_enter Tryz.func139, Tryz.ntmps139
          go_wp2
          go_ret
          exact ⟨retB HB.out.symm, rfl⟩
    · have HB : Hid (plB x = false) := plB_false (by omega)
      go_enter Tryz.func139, Tryz.ntmps139
      go_wp2
      go_ret
      exact ⟨retB HB.out.symm, rfl⟩
  · have HB : Hid (plB x = false) := plB_false (by omega)
    go_enter Tryz.func139, Tryz.ntmps139
    go_wp2
    go_ret
    exact ⟨retB HB.out.symm, rfl⟩

set_option maxHeartbeats 400000 in
theorem all_letter (s : ByteArray) (w : World) (hs : s.size ≤ maxLen) :
    Calls Tryz.prog 137 #[.string s, .func (.func 138) #[] #[]] w fun e w' => e = .returned (.bool (allP ltB s)) ∧ ∃ pos, w' = w.iter s pos := by
  unfold maxLen at hs
  go_enter Tryz.func137, Tryz.ntmps137
  go_wp2
  go_loopw [6] (fun _ w' => ∃ k : Nat, k ≤ s.size ∧ w' = w.iter s k ∧ upto ltB s k) (fun _ w' => s.size - w'.iterPos w.heap.size)
  case atStart => exact ⟨0, Nat.zero_le _, rfl, upto_zero _ _⟩
  case round =>
    obtain ⟨k, hk, rfl, hu⟩ := hrel
    have HU : Hid (upto ltB s k) := hu
    clear hu
    by_cases hlt : k < s.size
    · have hle : (s[k].toNat : Int) ≤ 255 := by have := s[k].toNat_lt; omega
      by_cases ha : s[k].toNat < 128
      · have hnx : ∀ ty, (Instr.next (.pointer (some ⟨w.heap.size, 0, none⟩)) true ty).run Tryz.prog (w.iter s k) = _ := fun ty => run_next_ascii w s k ty hlt ha
        cases hp : ltB (s[k].toNat : Int) with
        | true =>
          have HU1 : Hid (upto ltB s (k + 1)) := upto_succ hlt HU.out hp
          go_wp2_with (go_at_call 138; refine (letter_any _ _).mono ?_; rintro e w' ⟨rfl, rfl⟩)
          go_roundw
          case rel => exact ⟨k + 1, by omega, rfl, HU1.out⟩
          case measure => simp; omega
        | false =>
          have HN : Hid (allP ltB s = false) := all_no hlt hp
          go_wp2_with (go_at_call 138; refine (letter_any _ _).mono ?_; rintro e w' ⟨rfl, rfl⟩)
          go_ret
          exact ⟨retB HN.out.symm, _, rfl⟩
      · have hnx : ∀ ty, (Instr.next (.pointer (some ⟨w.heap.size, 0, none⟩)) true ty).run Tryz.prog (w.iter s k) = _ := fun ty => run_next_any w s k ty hlt
        have hhi := (decode_high s k hlt (by omega)).1
        have HN : Hid (allP ltB s = false) := all_no hlt (inB_false (by omega))
        have hp : ltB ((Utf8.decode s k).1 : Int) = false := inB_false (by omega)
        go_wp2_with (go_at_call 138; refine (letter_any _ _).mono ?_; rintro e w' ⟨rfl, rfl⟩)
        go_ret
        exact ⟨retB HN.out.symm, _, rfl⟩
    · have hnx : ∀ ty, (Instr.next (.pointer (some ⟨w.heap.size, 0, none⟩)) true ty).run Tryz.prog (w.iter s k) = _ := fun ty => run_next_end w s k ty hlt
      have HY : Hid (allP ltB s = true) := all_yes hlt HU.out
      go_wp2
      go_ret
      exact ⟨retB HY.out.symm, _, rfl⟩
set_option maxHeartbeats 400000 in
theorem all_plain (s : ByteArray) (w : World) (hs : s.size ≤ maxLen) :
    Calls Tryz.prog 137 #[.string s, .func (.func 139) #[] #[]] w fun e w' => e = .returned (.bool (allP plB s)) ∧ ∃ pos, w' = w.iter s pos := by
  unfold maxLen at hs
  go_enter Tryz.func137, Tryz.ntmps137
  go_wp2
  go_loopw [6] (fun _ w' => ∃ k : Nat, k ≤ s.size ∧ w' = w.iter s k ∧ upto plB s k) (fun _ w' => s.size - w'.iterPos w.heap.size)
  case atStart => exact ⟨0, Nat.zero_le _, rfl, upto_zero _ _⟩
  case round =>
    obtain ⟨k, hk, rfl, hu⟩ := hrel
    have HU : Hid (upto plB s k) := hu
    clear hu
    by_cases hlt : k < s.size
    · have hle : (s[k].toNat : Int) ≤ 255 := by have := s[k].toNat_lt; omega
      by_cases ha : s[k].toNat < 128
      · have hnx : ∀ ty, (Instr.next (.pointer (some ⟨w.heap.size, 0, none⟩)) true ty).run Tryz.prog (w.iter s k) = _ := fun ty => run_next_ascii w s k ty hlt ha
        cases hp : plB (s[k].toNat : Int) with
        | true =>
          have HU1 : Hid (upto plB s (k + 1)) := upto_succ hlt HU.out hp
          go_wp2_with (go_at_call 139; refine (plain_any _ _).mono ?_; rintro e w' ⟨rfl, rfl⟩)
          go_roundw
          case rel => exact ⟨k + 1, by omega, rfl, HU1.out⟩
          case measure => simp; omega
        | false =>
          have HN : Hid (allP plB s = false) := all_no hlt hp
          go_wp2_with (go_at_call 139; refine (plain_any _ _).mono ?_; rintro e w' ⟨rfl, rfl⟩)
          go_ret
          exact ⟨retB HN.out.symm, _, rfl⟩
      · have hnx : ∀ ty, (Instr.next (.pointer (some ⟨w.heap.size, 0, none⟩)) true ty).run Tryz.prog (w.iter s k) = _ := fun ty => run_next_any w s k ty hlt
        have hhi := (decode_high s k hlt (by omega)).1
        have HN : Hid (allP plB s = false) := all_no hlt (plB_false (by omega))
        have hp : plB ((Utf8.decode s k).1 : Int) = false := plB_false (by omega)
        go_wp2_with (go_at_call 139; refine (plain_any _ _).mono ?_; rintro e w' ⟨rfl, rfl⟩)
        go_ret
        exact ⟨retB HN.out.symm, _, rfl⟩
    · have hnx : ∀ ty, (Instr.next (.pointer (some ⟨w.heap.size, 0, none⟩)) true ty).run Tryz.prog (w.iter s k) = _ := fun ty => run_next_end w s k ty hlt
      have HY : Hid (allP plB s = true) := all_yes hlt HU.out
      go_wp2
      go_ret
      exact ⟨retB HY.out.symm, _, rfl⟩

def nameB (s : ByteArray) : Bool := allP ltB s && inB (s.size : Int) 1 8
def plainB (s : ByteArray) : Bool := allP plB s && decide ((s.size : Int) ≤ 12)
theorem name_no {s : ByteArray} (h : allP ltB s = false) : nameB s = false := by simp [nameB, h]
theorem name_yes {s : ByteArray} (h : allP ltB s = true) : nameB s = inB (s.size : Int) 1 8 := by simp [nameB, h]
theorem name_out {s : ByteArray} (h : ¬ (1 ≤ (s.size : Int) ∧ (s.size : Int) ≤ 8)) : nameB s = false := by simp [nameB, inB_false h]
theorem name_in {s : ByteArray} (h1 : 1 ≤ (s.size : Int)) (h2 : (s.size : Int) ≤ 8) : nameB s = allP ltB s := by simp [nameB, inB_true h1 h2]
theorem plain_no {s : ByteArray} (h : allP plB s = false) : plainB s = false := by simp [plainB, h]
theorem plain_yes {s : ByteArray} (h : allP plB s = true) : plainB s = decide ((s.size : Int) ≤ 12) := by simp [plainB, h]
theorem plain_out {s : ByteArray} (h : ¬ (s.size : Int) ≤ 12) : plainB s = false := by simp [plainB, decide_eq_false h]
theorem plain_in {s : ByteArray} (h : (s.size : Int) ≤ 12) : plainB s = allP plB s := by simp [plainB, decide_eq_true h]

set_option maxHeartbeats 400000 in
theorem specName_any (s : ByteArray) (w : World) (hs : s.size ≤ maxLen) :
    Calls Tryz.prog 129 #[.string s] w fun e w' => e = .returned (.bool (nameB s)) ∧ w' = w := by
  unfold maxLen at hs
  go_enter Tryz.func129, Tryz.ntmps129
  go_wp2
  go_loop [3] (fun i => ∃ k : Nat, k ≤ s.size ∧ i = .int .i64 k ∧ upto ltB s k) (fun i => s.size - (intOf i).toNat)
  case atStart => exact ⟨0, Nat.zero_le _, rfl, upto_zero _ _⟩
  case round =>
    obtain ⟨k, hk, rfl, hu⟩ := hrel
    have HU : Hid (upto ltB s k) := hu
    clear hu
    by_cases hlt : k < s.size
    · have hlt' : (k : Int) < s.size := by omega
      have hle : (s[k].toNat : Int) ≤ 255 := by have := s[k].toNat_lt; omega
      by_cases h1 : (s[k].toNat : Int) < 97
      · have HN : Hid (nameB s = false) := name_no (all_no hlt (inB_false (by omega)))
        go_wp2
        go_ret
        exact ⟨retB HN.out.symm, rfl⟩
      · by_cases h2 : 122 < (s[k].toNat : Int)
        · have HN : Hid (nameB s = false) := name_no (all_no hlt (inB_false (by omega)))
          go_wp2
          go_ret
          exact ⟨retB HN.out.symm, rfl⟩
        · have HU1 : Hid (upto ltB s (k + 1)) := upto_succ hlt HU.out (inB_true (by omega) (by omega))
          go_wp2
          go_round
          case rel => exact ⟨k + 1, by omega, by go_num, HU1.out⟩
          case measure => simp [intOf]; omega
    · have hge : ¬ (k : Int) < s.size := by omega
      have HY : Hid (nameB s = inB (s.size : Int) 1 8) := name_yes (all_yes hlt HU.out)
      go_wp2_with (go_at_call 83; refine (l1In_any _ _ _ _).mono ?_; rintro e w' ⟨rfl, rfl⟩)
      go_ret
      exact ⟨retB HY.out.symm, rfl⟩

set_option maxHeartbeats 400000 in
theorem specPlain_any (s : ByteArray) (w : World) (hs : s.size ≤ maxLen) :
    Calls Tryz.prog 106 #[.string s] w fun e w' => e = .returned (.bool (plainB s)) ∧ w' = w := by
  unfold maxLen at hs
  go_enter Tryz.func106, Tryz.ntmps106
  go_wp2
  go_loop [3] (fun i => ∃ k : Nat, k ≤ s.size ∧ i = .int .i64 k ∧ upto plB s k) (fun i => s.size - (intOf i).toNat)
  case atStart => exact ⟨0, Nat.zero_le _, rfl, upto_zero _ _⟩
  case round =>
    obtain ⟨k, hk, rfl, hu⟩ := hrel
    have HU : Hid (upto plB s k) := hu
    clear hu
    by_cases hlt : k < s.size
    · have hlt' : (k : Int) < s.size := by omega
      have hle : (s[k].toNat : Int) ≤ 255 := by have := s[k].toNat_lt; omega
      by_cases h1 : (s[k].toNat : Int) < 32
      · have HN : Hid (plainB s = false) := plain_no (all_no hlt (plB_false (by omega)))
        go_wp2
        go_ret
        exact ⟨retB HN.out.symm, rfl⟩
      · by_cases h2 : 126 < (s[k].toNat : Int)
        · have HN : Hid (plainB s = false) := plain_no (all_no hlt (plB_false (by omega)))
          go_wp2
          go_ret
          exact ⟨retB HN.out.symm, rfl⟩
        · by_cases h3 : (s[k].toNat : Int) = 34
          · have HN : Hid (plainB s = false) := plain_no (all_no hlt (plB_false (by omega)))
            have h3' : ((s[k].toNat : Int) == 34) = true := by simpa using h3
            clear h3
            go_wp2
            go_ret
            exact ⟨retB HN.out.symm, rfl⟩
          · have h3' : ((s[k].toNat : Int) == 34) = false := beq_eq_false_iff_ne.2 h3
            by_cases h4 : (s[k].toNat : Int) = 92
            · have HN : Hid (plainB s = false) := plain_no (all_no hlt (plB_false (by omega)))
              have h4' : ((s[k].toNat : Int) == 92) = true := by simpa using h4
              clear h3 h4
              go_wp2
              go_ret
              exact ⟨retB HN.out.symm, rfl⟩
            · have h4' : ((s[k].toNat : Int) == 92) = false := beq_eq_false_iff_ne.2 h4
              have HU1 : Hid (upto plB s (k + 1)) := upto_succ hlt HU.out (plB_true (by omega))
              clear h3 h4
              go_wp2
              go_round
              case rel => exact ⟨k + 1, by omega, by go_num, HU1.out⟩
              case measure => simp [intOf]; omega
    · have hge : ¬ (k : Int) < s.size := by omega
      have HY : Hid (plainB s = decide ((s.size : Int) ≤ 12)) := plain_yes (all_yes hlt HU.out)
      by_cases h12 : (s.size : Int) ≤ 12
      · have HZ : Hid (plainB s = true) := by show plainB s = true; rw [HY.out]; exact decide_eq_true h12
        go_wp2
        go_ret
        exact ⟨retB HZ.out.symm, rfl⟩
      · have HZ : Hid (plainB s = false) := by show plainB s = false; rw [HY.out]; exact decide_eq_false h12
        go_wp2
        go_ret
        exact ⟨retB HZ.out.symm, rfl⟩

set_option maxHeartbeats 400000 in
theorem implName_any (s : ByteArray) (w : World) (hs : s.size ≤ maxLen) :
    Calls Tryz.prog 126 #[.string s] w fun e w' => e = .returned (.bool (nameB s)) ∧ Below w.heap.size w w' := by
  by_cases h0 : s.size = 0
  · have hne := empty_yes h0
    have HN : Hid (nameB s = false) := name_out (by omega)
    clear h0
    unfold maxLen at hs
    go_enter Tryz.func126, Tryz.ntmps126
    go_wp2
    go_ret
    exact ⟨retB HN.out.symm, Below.refl _ _⟩
  · have hne := empty_no h0
    by_cases h8 : (s.size : Int) ≤ 8
    · have HM : Hid (s.size ≤ maxLen) := hs
      have HN : Hid (nameB s = allP ltB s) := name_in (by omega) h8
      unfold maxLen at hs
      go_enter Tryz.func126, Tryz.ntmps126
      go_wp2_with (go_at_call 137; refine (all_letter _ _ HM.out).mono ?_; rintro e w' ⟨rfl, pos, rfl⟩)
      go_ret
      exact ⟨retB HN.out.symm, (Below.refl _ _).alloc (Nat.le_refl _) _⟩
    · have HN : Hid (nameB s = false) := name_out (by omega)
      unfold maxLen at hs
      go_enter Tryz.func126, Tryz.ntmps126
      go_wp2
      go_ret
      exact ⟨retB HN.out.symm, Below.refl _ _⟩

set_option maxHeartbeats 400000 in
theorem implPlain_any (s : ByteArray) (w : World) (hs : s.size ≤ maxLen) :
    Calls Tryz.prog 127 #[.string s] w fun e w' => e = .returned (.bool (plainB s)) ∧ Below w.heap.size w w' := by
  by_cases h8 : (s.size : Int) ≤ 12
  · have HM : Hid (s.size ≤ maxLen) := hs
    have HN : Hid (plainB s = allP plB s) := plain_in h8
    unfold maxLen at hs
    go_enter Tryz.func127, Tryz.ntmps127
    go_wp2_with (go_at_call 137; refine (all_plain _ _ HM.out).mono ?_; rintro e w' ⟨rfl, pos, rfl⟩)
    go_ret
    exact ⟨retB HN.out.symm, (Below.refl _ _).alloc (Nat.le_refl _) _⟩
  · have HN : Hid (plainB s = false) := plain_out h8
    unfold maxLen at hs
    go_enter Tryz.func127, Tryz.ntmps127
    go_wp2
    go_ret
    exact ⟨retB HN.out.symm, Below.refl _ _⟩
end Go.Proofs.YtgncimlojbnbfaaGreat.Names
