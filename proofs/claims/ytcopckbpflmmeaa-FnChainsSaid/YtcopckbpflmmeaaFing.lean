/-
  PROVED: over a slice of labels in memory spec.Finger and impl.Finger answer alike, between nought and 31, as a plain function says; so do spec.Alike and impl.Alike over two; nothing that was there is changed.
-/
import Derived.Test.YtcopckbpflmmeaaSums
import Derived.Test.YtcopckbpflmmeaaTextI
namespace Go.Proofs.Ytcopckbpflmmeaa.Fing
open Go.RowKit
open Go.Proofs.Ytcopckbpflmmeaa.Labs Go.Proofs.Ytcopckbpflmmeaa.LabS Go.Proofs.Ytcopckbpflmmeaa.LabO Go.Proofs.Ytcopckbpflmmeaa.SetP Go.Proofs.Ytcopckbpflmmeaa.TextS Go.Proofs.Ytcopckbpflmmeaa.TextI Go.Proofs.Ytcopckbpflmmeaa.Sums
open Go.Proofs.Ytcopckbpflmmeaa.Over
set_option linter.unusedVariables false

def foldB (x : Nat) : Nat := (x ^^^ (x / 65536)) % 32
def fingerB (l : List Lab) : Nat := foldB (sumB (setText l))
theorem foldB_lt (x : Nat) : foldB x < 32 := Nat.mod_lt _ (by decide)
theorem finger_lt (l : List Lab) : fingerB l < 32 := foldB_lt _
theorem text_max (l : List Lab) : (setText l).size ≤ maxLen := by have := setText_size l; unfold maxLen; omega

set_option maxHeartbeats 400000 in
theorem specFinger_any (a : Option Addr) (cap : Nat) (l : List Lab) (w : World) (hr : Reads w a l) (hl : l.length ≤ maxLen) (hz : Fits l) :
    Calls Try.prog 60 #[.slice a l.length cap] w fun e w' => e = .returned (.int .i64 (fingerB l)) ∧ Below w.heap.size w w' := by
  have HC : Hid (Calls Try.prog 105 #[.slice a l.length cap] w fun e w' => e = .returned (.string (setText l)) ∧ Below w.heap.size w w') := specText_any a cap l w hr hl hz
  have HT := hidL (text_max l)
  have HF : Hid (fingerB l = foldB (sumB (setText l))) := rfl
  clear hr hl hz
  generalize setText l = t at HC HT HF
  go_enter Try.func60, Try.ntmps60
  go_wp2_with fail
  refine HC.out.mono ?_
  rintro e w1 ⟨rfl, hb⟩
  have HB : Hid (Below w.heap.size w w1) := hb
  clear hb
  go_wp2_with fail
  refine (specSum_any t _ HT.out).mono ?_
  rintro e w2 ⟨rfl, rfl⟩
  have hx0 := sumB_lt t
  generalize sumB t = x at HF hx0 ⊢
  have hq := i64_xor x (x / 65536) hx0 (by omega)
  have hy0 : x ^^^ (x / 65536) < 4294967296 := Nat.xor_lt_two_pow (n := 32) hx0 (by omega)
  unfold foldB at HF
  generalize x ^^^ (x / 65536) = y at HF hq hy0
  have hq' : bits .xor .i64 (x : Int) ((x : Int) / 65536) = (y : Int) := by rw [← hq]; simp
  clear hq
  go_wp2
  go_ret
  exact ⟨retI (by rw [HF.out]; omega), HB.out⟩
set_option maxHeartbeats 400000 in
theorem implFinger_any (a : Option Addr) (cap : Nat) (l : List Lab) (w : World) (hr : Reads w a l) (hl : l.length ≤ maxLen) (hz : Fits l) :
    Calls Try.prog 58 #[.slice a l.length cap] w fun e w' => e = .returned (.int .i64 (fingerB l)) ∧ Below w.heap.size w w' := by
  have HC : Hid (Calls Try.prog 100 #[.slice a l.length cap] w fun e w' => e = .returned (.string (setText l)) ∧ Below w.heap.size w w') := implText_any a cap l w hr hl hz
  have HT := hidL (text_max l)
  have HF : Hid (fingerB l = foldB (sumB (setText l))) := rfl
  clear hr hl hz
  generalize setText l = t at HC HT HF
  go_enter Try.func58, Try.ntmps58
  go_wp2_with fail
  refine HC.out.mono ?_
  rintro e w1 ⟨rfl, hb⟩
  have HB : Hid (Below w.heap.size w w1) := hb
  clear hb
  go_wp2_with fail
  refine (implSum_any t _ HT.out).mono ?_
  rintro e w2 ⟨rfl, rfl⟩
  have hx0 := sumB_lt t
  generalize sumB t = x at HF hx0 ⊢
  have hq := i64_xor x (x / 65536) hx0 (by omega)
  have hy0 : x ^^^ (x / 65536) < 4294967296 := Nat.xor_lt_two_pow (n := 32) hx0 (by omega)
  unfold foldB at HF
  generalize x ^^^ (x / 65536) = y at HF hq hy0
  have hq' : bits .xor .i64 (x : Int) ((x : Int) / 65536) = (y : Int) := by rw [← hq]; simp
  clear hq
  go_wp2
  go_ret
  exact ⟨retI (by rw [HF.out]; omega), HB.out⟩

/-- unlike sets of one finger -/
def alikeB (l m : List Lab) : Bool := !decide (l = m) && decide ((fingerB l : Int) = (fingerB m : Int))
theorem alike_self (l : List Lab) : alikeB l l = false := by simp [alikeB]
theorem alike_comm (l m : List Lab) : alikeB l m = alikeB m l := by
  unfold alikeB
  rw [show decide (l = m) = decide (m = l) by rw [decide_eq_decide]; exact eq_comm, show decide ((fingerB l : Int) = (fingerB m : Int)) = decide ((fingerB m : Int) = (fingerB l : Int)) by rw [decide_eq_decide]; exact eq_comm]
theorem retB {a b : Bool} (h : a = b) : Ending.returned (.bool a) = .returned (.bool b) := by rw [h]
end Go.Proofs.Ytcopckbpflmmeaa.Fing
