/-
  PROVED: the contracts of spec.NameOk, impl.NameOk, spec.PlainOk and impl.PlainOk at every string: each answers whether all bytes are of the kind that the document names and how many there are.
-/
import Derived.Test.YtgncimlojbnbfabRows
import Derived.WalkKit
import Derived.WalkLawsBesides
import Derived.WalkSpells
import Derived.Lib.Bytes
import Derived.Laws.RangeAny
import Derived.Below
namespace Go.Proofs.Ytgncimlojbnbfab.Names
open Go.RowKit
set_option linter.unusedVariables false

def inB (x a b : Int) : Bool := decide (a ≤ x ∧ x ≤ b)
theorem inB_true {x a b : Int} (h1 : a ≤ x) (h2 : x ≤ b) : inB x a b = true := by simp [inB, h1, h2]
theorem inB_false {x a b : Int} (h : ¬ (a ≤ x ∧ x ≤ b)) : inB x a b = false := by simp [inB]; omega
def plB (r : Int) : Bool := decide (32 ≤ r ∧ r ≤ 126 ∧ r ≠ 34 ∧ r ≠ 92)
theorem plB_true {r : Int} (h : 32 ≤ r ∧ r ≤ 126 ∧ r ≠ 34 ∧ r ≠ 92) : plB r = true := by simp [plB]; omega
theorem plB_false {r : Int} (h : ¬ (32 ≤ r ∧ r ≤ 126 ∧ r ≠ 34 ∧ r ≠ 92)) : plB r = false := by simp [plB]; omega
def ltB (r : Int) : Bool := inB r 97 122
theorem retB {a b : Bool} (h : a = b) : Ending.returned (.bool a) = .returned (.bool b) := by rw [h]

/-- whether each byte is so -/
def allP (p : Int → Bool) (s : ByteArray) : Bool := s.data.toList.all fun c => p (c.toNat : Int)
def upto (p : Int → Bool) (s : ByteArray) (k : Nat) : Prop := ∀ c ∈ s.data.toList.take k, p (c.toNat : Int) = true
theorem upto_zero (p : Int → Bool) (s : ByteArray) : upto p s 0 := by simp [upto]
theorem upto_succ {p : Int → Bool} {s : ByteArray} {k : Nat} (h : k < s.size) (hu : upto p s k) (hp : p (s[k].toNat : Int) = true) : upto p s (k + 1) := by
  intro c hm
  have e : s.data.toList.take (k + 1) = s.data.toList.take k ++ [s[k]] := by
    rw [List.take_succ_eq_append_getElem (by simpa using h)]; rfl
  rw [e, List.mem_append] at hm
  rcases hm with hm | hm
  · exact hu c hm
  · simp at hm; subst hm; exact hp
theorem all_yes {p : Int → Bool} {s : ByteArray} {k : Nat} (h : ¬ k < s.size) (hu : upto p s k) : allP p s = true := by
  unfold allP
  rw [List.all_eq_true]
  intro c hc
  exact hu c (by rw [List.take_of_length_le (by simp; omega)]; exact hc)
theorem all_no {p : Int → Bool} {s : ByteArray} {k : Nat} (h : k < s.size) (hp : p (s[k].toNat : Int) = false) : allP p s = false := by
  unfold allP
  rw [List.all_eq_false]
  refine ⟨s[k], ?_, by rw [hp]; simp⟩
  have : s[k] = s.data.toList[k]'(by simpa using h) := rfl
  rw [this]; exact List.getElem_mem _

theorem empty_yes {s : ByteArray} (h : s.size = 0) : s.toList.isEmpty = true := by
  have : s.data.toList = [] := List.length_eq_zero_iff.1 (by simpa using h)
  rw [Lib.toList_data, this]; rfl
theorem empty_no {s : ByteArray} (h : ¬ s.size = 0) : s.toList.isEmpty = false := by
  rw [Lib.toList_data]
  cases e : s.data.toList with
  | nil => have : s.data.toList.length = s.size := by simp
           rw [e] at this; simp at this; omega
  | cons a l => rfl

def nameB (s : ByteArray) : Bool := allP ltB s && inB (s.size : Int) 1 8
def plainB (s : ByteArray) : Bool := allP plB s && decide ((s.size : Int) ≤ 12)
theorem name_no {s : ByteArray} (h : allP ltB s = false) : nameB s = false := by simp [nameB, h]
theorem name_yes {s : ByteArray} (h : allP ltB s = true) : nameB s = inB (s.size : Int) 1 8 := by simp [nameB, h]
theorem name_out {s : ByteArray} (h : ¬ (1 ≤ (s.size : Int) ∧ (s.size : Int) ≤ 8)) : nameB s = false := by simp [nameB, inB_false h]
theorem name_in {s : ByteArray} (h1 : 1 ≤ (s.size : Int)) (h2 : (s.size : Int) ≤ 8) : nameB s = allP ltB s := by simp [nameB, inB_true h1 h2]
theorem plain_no {s : ByteArray} (h : allP plB s = false) : plainB s = false := by simp [plainB, h]
theorem plain_yes {s : ByteArray} (h : allP plB s = true) : plainB s = decide ((s.size : Int) ≤ 12) := by simp [plainB, h]
theorem plain_out {s : ByteArray} (h : ¬ (s.size : Int) ≤ 12) : plainB s = false := by simp [plainB, decide_eq_false h]
theorem plain_in {s : ByteArray} (h : (s.size : Int) ≤ 12) : plainB s = allP plB s := by simp [plainB, decide_eq_true h]

end Go.Proofs.Ytgncimlojbnbfab.Names
