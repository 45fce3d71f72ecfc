/-
  PROVED: over an alarm whose labels lie in memory spec.AlarmOk and impl.AlarmOk, SameAlarm, Over and Touch answer alike, each as a plain function says; nothing that was there is changed.
-/
import Derived.Test.YtooninmicfcfoaaQAlm
import Derived.Test.YtooninmicfcfoaaQLabO
set_option linter.unusedVariables false
namespace Go.Proofs.Ytooninmicfcfoaa.AlmS
open Go.RowKit
open Labs LabS Alm Over Blk
open LabO (setB)
open Names (inB inB_true inB_false plainB)
open StrB (retB)

def alarmB (l : List Lab) (s e : Int) (n : ByteArray) : Bool := setB l && (decide (0 < l.length) && (decide (0 ≤ s) && (decide (s ≤ e) && (decide (e ≤ 99999) && plainB n))))
def touchB (s e s' e' : Int) : Bool := decide (s ≤ e') && decide (s' ≤ e)
theorem touch_1 {s e s' e' : Int} (h : ¬ s ≤ e') : touchB s e s' e' = false := by simp [touchB, h]
theorem touch_2 {s e s' e' : Int} (h : ¬ s' ≤ e) : touchB s e s' e' = false := by simp [touchB, h]
theorem touch_y {s e s' e' : Int} (h : s ≤ e') (k : s' ≤ e) : touchB s e s' e' = true := by simp [touchB, h, k]
theorem specTouch_any (v v' : Value) (s e s' e' : Int) (n n' : ByteArray) (w : World) :
    Calls Try.prog 61 #[.agg #[v, .int .i64 s, .int .i64 e, .string n], .agg #[v', .int .i64 s', .int .i64 e', .string n']] w fun r w' => r = .returned (.bool (touchB s e s' e')) ∧ Below w.heap.size w w' := by
  have hb : ∀ o p, Below w.heap.size w ((w.alloc o).alloc p) := fun o p => ((Below.refl _ _).alloc (Nat.le_refl _) _).alloc (by simp) _
  have HB : ∀ o p, Hid (Below w.heap.size w ((w.alloc o).alloc p)) := hb
  clear hb
  by_cases h : s ≤ e'
  · by_cases k : s' ≤ e
    · go_enter Try.func61, Try.ntmps61
      go_wp2
      go_ret
      exact ⟨retB (touch_y h k).symm, (HB _ _).out⟩
    · go_enter Try.func61, Try.ntmps61
      go_wp2
      go_ret
      exact ⟨retB (touch_2 (by omega)).symm, (HB _ _).out⟩
  · go_enter Try.func61, Try.ntmps61
    go_wp2
    go_ret
    exact ⟨retB (touch_1 (by omega)).symm, (HB _ _).out⟩
theorem implTouch_any (v v' : Value) (s e s' e' : Int) (n n' : ByteArray) (w : World) :
    Calls Try.prog 73 #[.agg #[v, .int .i64 s, .int .i64 e, .string n], .agg #[v', .int .i64 s', .int .i64 e', .string n']] w fun r w' => r = .returned (.bool (touchB s e s' e')) ∧ Below w.heap.size w w' := by
  have hb : ∀ o p, Below w.heap.size w ((w.alloc o).alloc p) := fun o p => ((Below.refl _ _).alloc (Nat.le_refl _) _).alloc (by simp) _
  have HB : ∀ o p, Hid (Below w.heap.size w ((w.alloc o).alloc p)) := hb
  clear hb
  by_cases h : s ≤ e'
  · by_cases k : s' ≤ e
    · go_enter Try.func73, Try.ntmps73
      go_wp2
      go_ret
      exact ⟨retB (touch_y h k).symm, (HB _ _).out⟩
    · go_enter Try.func73, Try.ntmps73
      go_wp2
      go_ret
      exact ⟨retB (touch_2 (by omega)).symm, (HB _ _).out⟩
  · go_enter Try.func73, Try.ntmps73
    go_wp2
    go_ret
    exact ⟨retB (touch_1 (by omega)).symm, (HB _ _).out⟩

end Go.Proofs.Ytooninmicfcfoaa.AlmS
