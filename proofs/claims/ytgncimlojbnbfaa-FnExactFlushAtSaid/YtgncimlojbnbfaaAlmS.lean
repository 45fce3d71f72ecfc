/-
  PROVED: over an alarm whose labels lie in memory spec.AlarmOk and impl.AlarmOk, SameAlarm, Over and Touch answer alike, each as a plain function says; nothing that was there is changed.
-/
import Derived.Test.YtgncimlojbnbfaaAlm
import Derived.Test.YtgncimlojbnbfaaLabO
namespace Go.Proofs.Ytgncimlojbnbfaa.AlmS
open Go.RowKit
open Go.Proofs.Ytgncimlojbnbfaa.Labs Go.Proofs.Ytgncimlojbnbfaa.LabS Go.Proofs.Ytgncimlojbnbfaa.Alm Go.Proofs.Ytgncimlojbnbfaa.Over Go.Proofs.Ytgncimlojbnbfaa.Blk
open Go.Proofs.Ytgncimlojbnbfaa.LabO (setB)
open Go.Proofs.Ytgncimlojbnbfaa.Names (inB inB_true inB_false plainB)
open Go.Proofs.Ytgncimlojbnbfaa.StrB (retB)
set_option linter.unusedVariables false

/-- whether an alarm may be -/
def alarmB (l : List Lab) (s e : Int) (n : ByteArray) : Bool := setB l && (decide (0 < l.length) && (decide (0 ≤ s) && (decide (s ≤ e) && (decide (e ≤ 99999) && plainB n))))
theorem al_set {l : List Lab} {s e : Int} {n : ByteArray} (h : setB l = false) : alarmB l s e n = false := by simp [alarmB, h]
theorem al_len {l : List Lab} {s e : Int} {n : ByteArray} (h : ¬ 0 < l.length) : alarmB l s e n = false := by
  have : l.length = 0 := by omega
  simp [alarmB, this]
theorem al_low {l : List Lab} {s e : Int} {n : ByteArray} (h : ¬ 0 ≤ s) : alarmB l s e n = false := by simp [alarmB, h]
theorem al_mid {l : List Lab} {s e : Int} {n : ByteArray} (h : ¬ s ≤ e) : alarmB l s e n = false := by simp [alarmB, h]
theorem al_high {l : List Lab} {s e : Int} {n : ByteArray} (h : ¬ e ≤ 99999) : alarmB l s e n = false := by simp [alarmB, h]
theorem al_yes {l : List Lab} {s e : Int} {n : ByteArray} (h1 : setB l = true) (h2 : 0 < l.length) (h3 : 0 ≤ s) (h4 : s ≤ e) (h5 : e ≤ 99999) : alarmB l s e n = plainB n := by
  simp [alarmB, h1, h2, h3, h4, h5]
theorem al_in1 {l : List Lab} {s e : Int} {n : ByteArray} (h : inB s 0 99999 = false) : alarmB l s e n = false := by
  by_cases h0 : 0 ≤ s
  · by_cases h1 : s ≤ e
    · refine al_high fun h2 => ?_
      rw [inB_true h0 (by omega)] at h; cases h
    · exact al_mid h1
  · exact al_low h0
theorem al_in2 {l : List Lab} {s e : Int} {n : ByteArray} (h : inB e s 99999 = false) : alarmB l s e n = false := by
  by_cases h1 : s ≤ e
  · refine al_high fun h2 => ?_
    rw [inB_true h1 h2] at h; cases h
  · exact al_mid h1
theorem al_in {l : List Lab} {s e : Int} {n : ByteArray} (h1 : setB l = true) (h2 : 0 < l.length) (h3 : inB s 0 99999 = true) (h4 : inB e s 99999 = true) : alarmB l s e n = plainB n := by
  unfold inB at h3 h4
  have h3' := of_decide_eq_true h3
  have h4' := of_decide_eq_true h4
  exact al_yes h1 h2 h3'.1 h4'.1 h4'.2

set_option maxHeartbeats 800000 in
theorem specAlarm_any (a : Option Addr) (cap : Nat) (l : List Lab) (s e : Int) (n : ByteArray) (w : World) (h : AlIn w a l s e n) :
    Calls Try.prog 67 #[.agg #[.slice a l.length cap, .int .i64 s, .int .i64 e, .string n]] w fun r w' => r = .returned (.bool (alarmB l s e n)) ∧ Below w.heap.size w w' := by
  have HA : Hid (AlIn w a l s e n) := h
  clear h
  go_enter Try.func67, Try.ntmps67
  go_wp2_with fail
  refine (LabO.specSet_any a cap l _ (HA.out.reads.below ((Below.refl _ _).alloc (Nat.le_refl _) _)) HA.out.len HA.out.fits).mono ?_
  rintro r w1 ⟨rfl, hb⟩
  have c0 : w1.cell? ⟨w.heap.size, 0, none⟩ = some (.slice a l.length cap) := at_par hb 0 rfl
  have c1 : w1.cell? ⟨w.heap.size, 1, none⟩ = some (.int .i64 s) := at_par hb 1 rfl
  have c2 : w1.cell? ⟨w.heap.size, 2, none⟩ = some (.int .i64 e) := at_par hb 2 rfl
  have c3 : w1.cell? ⟨w.heap.size, 3, none⟩ = some (.string n) := at_par hb 3 rfl
  have HB : Hid (Below w.heap.size w w1) := grow_on ((Below.refl _ _).alloc (Nat.le_refl _) _) hb
  clear hb
  cases hs : setB l with
  | false =>
    go_wp2
    go_ret
    exact ⟨retB (al_set hs).symm, HB.out⟩
  | true =>
    have HS : Hid (setB l = true) := hs
    clear hs
    by_cases h0 : 0 < l.length
    · have h0' : (0 : Int) < (l.length : Int) := by omega
      have H0 : Hid (0 < l.length) := h0
      clear h0
      go_wp2_with fail
      refine (Names.l1In_any s 0 99999 _).mono ?_
      rintro r w2 ⟨rfl, rfl⟩
      cases h1 : inB s 0 99999 with
      | false =>
        go_wp2
        go_ret
        exact ⟨retB (al_in1 h1).symm, HB.out⟩
      | true =>
        have H1 : Hid (inB s 0 99999 = true) := h1
        clear h1
        go_wp2_with fail
        refine (Names.l1In_any e s 99999 _).mono ?_
        rintro r w3 ⟨rfl, rfl⟩
        cases h2 : inB e s 99999 with
        | false =>
          go_wp2
          go_ret
          exact ⟨retB (al_in2 h2).symm, HB.out⟩
        | true =>
          have H2 : Hid (inB e s 99999 = true) := h2
          clear h2
          go_wp2_with fail
          refine (Names.specPlain_any n _ HA.out.note).mono ?_
          rintro r w4 ⟨rfl, rfl⟩
          go_wp2
          go_ret
          exact ⟨retB (al_in HS.out H0.out H1.out H2.out).symm, HB.out⟩
    · have h0' : ¬ (0 : Int) < (l.length : Int) := by omega
      have H0 : Hid (¬ 0 < l.length) := h0
      clear h0
      go_wp2
      go_ret
      exact ⟨retB (al_len H0.out).symm, HB.out⟩

set_option maxHeartbeats 800000 in
theorem implAlarm_any (a : Option Addr) (cap : Nat) (l : List Lab) (s e : Int) (n : ByteArray) (w : World) (h : AlIn w a l s e n) :
    Calls Try.prog 96 #[.agg #[.slice a l.length cap, .int .i64 s, .int .i64 e, .string n]] w fun r w' => r = .returned (.bool (alarmB l s e n)) ∧ Below w.heap.size w w' := by
  have HA : Hid (AlIn w a l s e n) := h
  clear h
  by_cases h0 : 0 < l.length
  · have h0' : (0 : Int) < (l.length : Int) := by omega
    have H0 : Hid (0 < l.length) := h0
    clear h0
    go_enter Try.func96, Try.ntmps96
    go_wp2_with fail
    refine (LabO.implSet_any a cap l _ (HA.out.reads.below ((Below.refl _ _).alloc (Nat.le_refl _) _)) HA.out.len HA.out.fits).mono ?_
    rintro r w1 ⟨rfl, hb⟩
    have c0 : w1.cell? ⟨w.heap.size, 0, none⟩ = some (.slice a l.length cap) := at_par hb 0 rfl
    have c1 : w1.cell? ⟨w.heap.size, 1, none⟩ = some (.int .i64 s) := at_par hb 1 rfl
    have c2 : w1.cell? ⟨w.heap.size, 2, none⟩ = some (.int .i64 e) := at_par hb 2 rfl
    have c3 : w1.cell? ⟨w.heap.size, 3, none⟩ = some (.string n) := at_par hb 3 rfl
    have HB : Hid (Below w.heap.size w w1) := grow_on ((Below.refl _ _).alloc (Nat.le_refl _) _) hb
    clear hb
    cases hs : setB l with
    | false =>
      go_wp2
      go_ret
      exact ⟨retB (al_set hs).symm, HB.out⟩
    | true =>
      have HS : Hid (setB l = true) := hs
      clear hs
      by_cases h1 : 0 ≤ s
      · by_cases h2 : s ≤ e
        · by_cases h3 : e ≤ 99999
          · go_wp2_with fail
            refine (Names.implPlain_any n _ HA.out.note).mono ?_
            rintro r w2 ⟨rfl, hb⟩
            have HB2 : Hid (Below w.heap.size w w2) := grow_on HB.out hb
            clear hb
            go_wp2
            go_ret
            exact ⟨retB (al_yes HS.out H0.out h1 h2 h3).symm, HB2.out⟩
          · go_wp2
            go_ret
            exact ⟨retB (al_high (by omega)).symm, HB.out⟩
        · go_wp2
          go_ret
          exact ⟨retB (al_mid (by omega)).symm, HB.out⟩
      · go_wp2
        go_ret
        exact ⟨retB (al_low (by omega)).symm, HB.out⟩
  · have h0' : ¬ (0 : Int) < (l.length : Int) := by omega
    have H0 : Hid (¬ 0 < l.length) := h0
    clear h0
    go_enter Try.func96, Try.ntmps96
    go_wp2
    go_ret
    exact ⟨retB (al_len H0.out).symm, (Below.refl _ _).alloc (Nat.le_refl _) _⟩

/-- whether an alarm is over -/
def overB (e now : Int) : Bool := decide (e ≤ now)
theorem specOver_any (v : Value) (s e : Int) (n : ByteArray) (now : Int) (w : World) :
    Calls Try.prog 84 #[.agg #[v, .int .i64 s, .int .i64 e, .string n], .int .i64 now] w fun r w' => r = .returned (.bool (overB e now)) ∧ Below w.heap.size w w' := by
  by_cases h : e ≤ now
  · go_enter Try.func84, Try.ntmps84
    go_wp2
    go_ret
    exact ⟨retB (decide_eq_true h).symm, (Below.refl _ _).alloc (Nat.le_refl _) _⟩
  · go_enter Try.func84, Try.ntmps84
    go_wp2
    go_ret
    exact ⟨retB (decide_eq_false (by omega)).symm, (Below.refl _ _).alloc (Nat.le_refl _) _⟩
theorem implOver_any (v : Value) (s e : Int) (n : ByteArray) (now : Int) (w : World) :
    Calls Try.prog 88 #[.agg #[v, .int .i64 s, .int .i64 e, .string n], .int .i64 now] w fun r w' => r = .returned (.bool (overB e now)) ∧ Below w.heap.size w w' := by
  by_cases h : e ≤ now
  · go_enter Try.func88, Try.ntmps88
    go_wp2
    go_ret
    exact ⟨retB (decide_eq_true h).symm, (Below.refl _ _).alloc (Nat.le_refl _) _⟩
  · go_enter Try.func88, Try.ntmps88
    go_wp2
    go_ret
    exact ⟨retB (decide_eq_false (by omega)).symm, (Below.refl _ _).alloc (Nat.le_refl _) _⟩

/-- whether two alarms touch -/
def touchB (s e s' e' : Int) : Bool := decide (s ≤ e') && decide (s' ≤ e)
theorem touch_1 {s e s' e' : Int} (h : ¬ s ≤ e') : touchB s e s' e' = false := by simp [touchB, h]
theorem touch_2 {s e s' e' : Int} (h : ¬ s' ≤ e) : touchB s e s' e' = false := by simp [touchB, h]
theorem touch_y {s e s' e' : Int} (h : s ≤ e') (k : s' ≤ e) : touchB s e s' e' = true := by simp [touchB, h, k]
end Go.Proofs.Ytgncimlojbnbfaa.AlmS
