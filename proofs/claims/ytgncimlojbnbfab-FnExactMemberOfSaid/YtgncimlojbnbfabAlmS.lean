/-
  PROVED: over an alarm whose labels lie in memory spec.AlarmOk and impl.AlarmOk, SameAlarm, Over and Touch answer alike, each as a plain function says; nothing that was there is changed.
-/
import Derived.Test.YtgncimlojbnbfabAlm
import Derived.Test.YtgncimlojbnbfabLabO
namespace Go.Proofs.Ytgncimlojbnbfab.AlmS
open Go.RowKit
open Go.Proofs.Ytgncimlojbnbfab.Labs Go.Proofs.Ytgncimlojbnbfab.LabS Go.Proofs.Ytgncimlojbnbfab.Alm Go.Proofs.Ytgncimlojbnbfab.Over Go.Proofs.Ytgncimlojbnbfab.Blk
open Go.Proofs.Ytgncimlojbnbfab.LabO (setB)
open Go.Proofs.Ytgncimlojbnbfab.Names (inB inB_true inB_false plainB)
open Go.Proofs.Ytgncimlojbnbfab.StrB (retB)
set_option linter.unusedVariables false

/-- whether an alarm may be -/
def alarmB (l : List Lab) (s e : Int) (n : ByteArray) : Bool := setB l && (decide (0 < l.length) && (decide (0 ≤ s) && (decide (s ≤ e) && (decide (e ≤ 99999) && plainB n))))
theorem al_set {l : List Lab} {s e : Int} {n : ByteArray} (h : setB l = false) : alarmB l s e n = false := by simp [alarmB, h]
theorem al_len {l : List Lab} {s e : Int} {n : ByteArray} (h : ¬ 0 < l.length) : alarmB l s e n = false := by
  have : l.length = 0 := by omega
  simp [alarmB, this]
theorem al_low {l : List Lab} {s e : Int} {n : ByteArray} (h : ¬ 0 ≤ s) : alarmB l s e n = false := by simp [alarmB, h]
theorem al_mid {l : List Lab} {s e : Int} {n : ByteArray} (h : ¬ s ≤ e) : alarmB l s e n = false := by simp [alarmB, h]
theorem al_high {l : List Lab} {s e : Int} {n : ByteArray} (h : ¬ e ≤ 99999) : alarmB l s e n = false := by simp [alarmB, h]
theorem al_yes {l : List Lab} {s e : Int} {n : ByteArray} (h1 : setB l = true) (h2 : 0 < l.length) (h3 : 0 ≤ s) (h4 : s ≤ e) (h5 : e ≤ 99999) : alarmB l s e n = plainB n := by
  simp [alarmB, h1, h2, h3, h4, h5]
theorem al_in1 {l : List Lab} {s e : Int} {n : ByteArray} (h : inB s 0 99999 = false) : alarmB l s e n = false := by
  by_cases h0 : 0 ≤ s
  · by_cases h1 : s ≤ e
    · refine al_high fun h2 => ?_
      rw [inB_true h0 (by omega)] at h; cases h
    · exact al_mid h1
  · exact al_low h0
theorem al_in2 {l : List Lab} {s e : Int} {n : ByteArray} (h : inB e s 99999 = false) : alarmB l s e n = false := by
  by_cases h1 : s ≤ e
  · refine al_high fun h2 => ?_
    rw [inB_true h1 h2] at h; cases h
  · exact al_mid h1
theorem al_in {l : List Lab} {s e : Int} {n : ByteArray} (h1 : setB l = true) (h2 : 0 < l.length) (h3 : inB s 0 99999 = true) (h4 : inB e s 99999 = true) : alarmB l s e n = plainB n := by
  unfold inB at h3 h4
  have h3' := of_decide_eq_true h3
  have h4' := of_decide_eq_true h4
  exact al_yes h1 h2 h3'.1 h4'.1 h4'.2

/-- whether an alarm is over -/
def overB (e now : Int) : Bool := decide (e ≤ now)
/-- whether two alarms touch -/
def touchB (s e s' e' : Int) : Bool := decide (s ≤ e') && decide (s' ≤ e)
theorem touch_1 {s e s' e' : Int} (h : ¬ s ≤ e') : touchB s e s' e' = false := by simp [touchB, h]
theorem touch_2 {s e s' e' : Int} (h : ¬ s' ≤ e) : touchB s e s' e' = false := by simp [touchB, h]
theorem touch_y {s e s' e' : Int} (h : s ≤ e') (k : s' ≤ e) : touchB s e s' e' = true := by simp [touchB, h, k]
end Go.Proofs.Ytgncimlojbnbfab.AlmS
