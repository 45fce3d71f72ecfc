/-
  PROVED: over an alarm whose labels lie in memory spec.AlarmOk and impl.AlarmOk, SameAlarm, Over and Touch answer alike, each as a plain function says; nothing that was there is changed.
-/
import Derived.Test.YtcopckbpflmmeabQAlm
import Derived.Test.YtcopckbpflmmeabQLabO
set_option linter.unusedVariables false
namespace Go.Proofs.Ytcopckbpflmmeab.AlmS
open Go.RowKit
open Labs LabS Alm Over Blk
open LabO (setB)
open Names (inB inB_true inB_false plainB)
open StrB (retB)

def overB (e now : Int) : Bool := decide (e ≤ now)
theorem specOver_any (v : Value) (s e : Int) (n : ByteArray) (now : Int) (w : World) :
    Calls Try.prog 50 #[.agg #[v, .int .i64 s, .int .i64 e, .string n], .int .i64 now] w fun r w' => r = .returned (.bool (overB e now)) ∧ Below w.heap.size w w' := by
  by_cases h : e ≤ now
  · go_enter Try.func50, Try.ntmps50
    go_wp2
    go_ret
    exact ⟨retB (decide_eq_true h).symm, (Below.refl _ _).alloc (Nat.le_refl _) _⟩
  · go_enter Try.func50, Try.ntmps50
    go_wp2
    go_ret
    exact ⟨retB (decide_eq_false (by omega)).symm, (Below.refl _ _).alloc (Nat.le_refl _) _⟩
theorem implOver_any (v : Value) (s e : Int) (n : ByteArray) (now : Int) (w : World) :
    Calls Try.prog 53 #[.agg #[v, .int .i64 s, .int .i64 e, .string n], .int .i64 now] w fun r w' => r = .returned (.bool (overB e now)) ∧ Below w.heap.size w w' := by
  by_cases h : e ≤ now
  · go_enter Try.func53, Try.ntmps53
    go_wp2
    go_ret
    exact ⟨retB (decide_eq_true h).symm, (Below.refl _ _).alloc (Nat.le_refl _) _⟩
  · go_enter Try.func53, Try.ntmps53
    go_wp2
    go_ret
    exact ⟨retB (decide_eq_false (by omega)).symm, (Below.refl _ _).alloc (Nat.le_refl _) _⟩

end Go.Proofs.Ytcopckbpflmmeab.AlmS
