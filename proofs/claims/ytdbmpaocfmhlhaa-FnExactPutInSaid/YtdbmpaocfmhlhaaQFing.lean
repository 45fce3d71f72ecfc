/-
  PROVED: over a slice of labels in memory spec.Finger and impl.Finger answer alike, between nought and 31, as a plain function says; so do spec.Alike and impl.Alike over two; nothing that was there is changed.
-/
import Derived.Test.YtdbmpaocfmhlhaaQSums
import Derived.Test.YtdbmpaocfmhlhaaQTextI
namespace Go.Proofs.Ytdbmpaocfmhlhaa.Fing
open Go.RowKit
open Go.Proofs.Ytdbmpaocfmhlhaa.Labs Go.Proofs.Ytdbmpaocfmhlhaa.LabS Go.Proofs.Ytdbmpaocfmhlhaa.LabO Go.Proofs.Ytdbmpaocfmhlhaa.SetP Go.Proofs.Ytdbmpaocfmhlhaa.TextS Go.Proofs.Ytdbmpaocfmhlhaa.TextI Go.Proofs.Ytdbmpaocfmhlhaa.Sums
open Go.Proofs.Ytdbmpaocfmhlhaa.Over
set_option linter.unusedVariables false

def foldB (x : Nat) : Nat := (x ^^^ (x / 65536)) % 32
def fingerB (l : List Lab) : Nat := foldB (sumB (setText l))
theorem foldB_lt (x : Nat) : foldB x < 32 := Nat.mod_lt _ (by decide)
theorem finger_lt (l : List Lab) : fingerB l < 32 := foldB_lt _
theorem text_max (l : List Lab) : (setText l).size ≤ maxLen := by have := setText_size l; unfold maxLen; omega

set_option maxHeartbeats 400000 in
theorem specFinger_any (a : Option Addr) (cap : Nat) (l : List Lab) (w : World) (hr : Reads w a l) (hl : l.length ≤ maxLen) (hz : Fits l) :
    Calls Try.prog 48 #[.slice a l.length cap] w fun e w' => e = .returned (.int .i64 (fingerB l)) ∧ Below w.heap.size w w' := by
  have HC : Hid (Calls Try.prog 79 #[.slice a l.length cap] w fun e w' => e = .returned (.string (setText l)) ∧ Below w.heap.size w w') := specText_any a cap l w hr hl hz
  have HT := hidL (text_max l)
  have HF : Hid (fingerB l = foldB (sumB (setText l))) := rfl
  clear hr hl hz
  generalize setText l = t at HC HT HF
  go_enter Try.func48, Try.ntmps48
  go_wp2_with fail
  refine HC.out.mono ?_
  rintro e w1 ⟨rfl, hb⟩
  have HB : Hid (Below w.heap.size w w1) := hb
  clear hb
  go_wp2_with fail
  refine (specSum_any t _ HT.out).mono ?_
  rintro e w2 ⟨rfl, rfl⟩
  have hx0 := sumB_lt t
  generalize sumB t = x at HF hx0 ⊢
  have hq := i64_xor x (x / 65536) hx0 (by omega)
  have hy0 : x ^^^ (x / 65536) < 4294967296 := Nat.xor_lt_two_pow (n := 32) hx0 (by omega)
  unfold foldB at HF
  generalize x ^^^ (x / 65536) = y at HF hq hy0
  have hq' : bits .xor .i64 (x : Int) ((x : Int) / 65536) = (y : Int) := by rw [← hq]; simp
  clear hq
  go_wp2
  go_ret
  exact ⟨retI (by rw [HF.out]; omega), HB.out⟩
set_option maxHeartbeats 400000 in
theorem implFinger_any (a : Option Addr) (cap : Nat) (l : List Lab) (w : World) (hr : Reads w a l) (hl : l.length ≤ maxLen) (hz : Fits l) :
    Calls Try.prog 53 #[.slice a l.length cap] w fun e w' => e = .returned (.int .i64 (fingerB l)) ∧ Below w.heap.size w w' := by
  have HC : Hid (Calls Try.prog 81 #[.slice a l.length cap] w fun e w' => e = .returned (.string (setText l)) ∧ Below w.heap.size w w') := implText_any a cap l w hr hl hz
  have HT := hidL (text_max l)
  have HF : Hid (fingerB l = foldB (sumB (setText l))) := rfl
  clear hr hl hz
  generalize setText l = t at HC HT HF
  go_enter Try.func53, Try.ntmps53
  go_wp2_with fail
  refine HC.out.mono ?_
  rintro e w1 ⟨rfl, hb⟩
  have HB : Hid (Below w.heap.size w w1) := hb
  clear hb
  go_wp2_with fail
  refine (implSum_any t _ HT.out).mono ?_
  rintro e w2 ⟨rfl, rfl⟩
  have hx0 := sumB_lt t
  generalize sumB t = x at HF hx0 ⊢
  have hq := i64_xor x (x / 65536) hx0 (by omega)
  have hy0 : x ^^^ (x / 65536) < 4294967296 := Nat.xor_lt_two_pow (n := 32) hx0 (by omega)
  unfold foldB at HF
  generalize x ^^^ (x / 65536) = y at HF hq hy0
  have hq' : bits .xor .i64 (x : Int) ((x : Int) / 65536) = (y : Int) := by rw [← hq]; simp
  clear hq
  go_wp2
  go_ret
  exact ⟨retI (by rw [HF.out]; omega), HB.out⟩

theorem retB {a b : Bool} (h : a = b) : Ending.returned (.bool a) = .returned (.bool b) := by rw [h]
end Go.Proofs.Ytdbmpaocfmhlhaa.Fing
