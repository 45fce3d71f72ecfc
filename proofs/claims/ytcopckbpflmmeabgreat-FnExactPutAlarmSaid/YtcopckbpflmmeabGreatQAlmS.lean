/-
  PROVED: over an alarm whose labels lie in memory spec.AlarmOk and impl.AlarmOk, SameAlarm, Over and Touch answer alike, each as a plain function says; nothing that was there is changed.
-/
import Derived.Test.YtcopckbpflmmeabGreatQAlm
import Derived.Test.YtcopckbpflmmeabGreatQLabO
set_option linter.unusedVariables false
namespace Go.Proofs.YtcopckbpflmmeabGreat.AlmS
open Go.RowKit
open Labs LabS Alm Over Blk
open LabO (setB)
open Names (inB inB_true inB_false plainB)
open StrB (retB)

def touchB (s e s' e' : Int) : Bool := decide (s ≤ e') && decide (s' ≤ e)
theorem touch_1 {s e s' e' : Int} (h : ¬ s ≤ e') : touchB s e s' e' = false := by simp [touchB, h]
theorem touch_2 {s e s' e' : Int} (h : ¬ s' ≤ e) : touchB s e s' e' = false := by simp [touchB, h]
theorem touch_y {s e s' e' : Int} (h : s ≤ e') (k : s' ≤ e) : touchB s e s' e' = true := by simp [touchB, h, k]
theorem specTouch_any (v v' : Value) (s e s' e' : Int) (n n' : ByteArray) (w : World) :
    Calls Tryz.prog 75 #[.agg #[v, .int .i64 s, .int .i64 e, .string n], .agg #[v', .int .i64 s', .int .i64 e', .string n']] w fun r w' => r = .returned (.bool (touchB s e s' e')) ∧ Below w.heap.size w w' := by
  have hb : ∀ o p, Below w.heap.size w ((w.alloc o).alloc p) := fun o p => ((Below.refl _ _).alloc (Nat.le_refl _) _).alloc (by simp) _
  have HB : ∀ o p, Hid (Below w.heap.size w ((w.alloc o).alloc p)) := hb
  clear hb
  by_cases h : s ≤ e'
  · by_cases k : s' ≤ e
    · go_enter Tryz.func75, Tryz.ntmps75
      go_wp2
      go_ret
      exact ⟨retB (touch_y h k).symm, (HB _ _).out⟩
    · go_enter Tryz.func75, Tryz.ntmps75
      go_wp2
      go_ret
      exact ⟨retB (touch_2 (by omega)).symm, (HB _ _).out⟩
  · go_enter Tryz.func75, Tryz.ntmps75
    go_wp2
    go_ret
    exact ⟨retB (touch_1 (by omega)).symm, (HB _ _).out⟩
theorem implTouch_any (v v' : Value) (s e s' e' : Int) (n n' : ByteArray) (w : World) :
    Calls Tryz.prog 86 #[.agg #[v, .int .i64 s, .int .i64 e, .string n], .agg #[v', .int .i64 s', .int .i64 e', .string n']] w fun r w' => r = .returned (.bool (touchB s e s' e')) ∧ Below w.heap.size w w' := by
  have hb : ∀ o p, Below w.heap.size w ((w.alloc o).alloc p) := fun o p => ((Below.refl _ _).alloc (Nat.le_refl _) _).alloc (by simp) _
  have HB : ∀ o p, Hid (Below w.heap.size w ((w.alloc o).alloc p)) := hb
  clear hb
  by_cases h : s ≤ e'
  · by_cases k : s' ≤ e
    · go_enter Tryz.func86, Tryz.ntmps86
      go_wp2
      go_ret
      exact ⟨retB (touch_y h k).symm, (HB _ _).out⟩
    · go_enter Tryz.func86, Tryz.ntmps86
      go_wp2
      go_ret
      exact ⟨retB (touch_2 (by omega)).symm, (HB _ _).out⟩
  · go_enter Tryz.func86, Tryz.ntmps86
    go_wp2
    go_ret
    exact ⟨retB (touch_1 (by omega)).symm, (HB _ _).out⟩

end Go.Proofs.YtcopckbpflmmeabGreat.AlmS
