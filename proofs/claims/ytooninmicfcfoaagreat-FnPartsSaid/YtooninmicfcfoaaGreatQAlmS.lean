/-
  PROVED: over an alarm whose labels lie in memory spec.AlarmOk and impl.AlarmOk, SameAlarm, Over and Touch answer alike, each as a plain function says; nothing that was there is changed.
-/
import Derived.Test.YtooninmicfcfoaaGreatQAlm
import Derived.Test.YtooninmicfcfoaaGreatQLabO
set_option linter.unusedVariables false
namespace Go.Proofs.YtooninmicfcfoaaGreat.AlmS
open Go.RowKit
open Labs LabS Alm Over Blk
open LabO (setB)
open Names (inB inB_true inB_false plainB)
open StrB (retB)

def alarmB (l : List Lab) (s e : Int) (n : ByteArray) : Bool := setB l && (decide (0 < l.length) && (decide (0 ≤ s) && (decide (s ≤ e) && (decide (e ≤ 99999) && plainB n))))
theorem al_set {l : List Lab} {s e : Int} {n : ByteArray} (h : setB l = false) : alarmB l s e n = false := by simp [alarmB, h]
theorem al_len {l : List Lab} {s e : Int} {n : ByteArray} (h : ¬ 0 < l.length) : alarmB l s e n = false := by
  have : l.length = 0 := by omega
  simp [alarmB, this]
theorem al_low {l : List Lab} {s e : Int} {n : ByteArray} (h : ¬ 0 ≤ s) : alarmB l s e n = false := by simp [alarmB, h]
theorem al_mid {l : List Lab} {s e : Int} {n : ByteArray} (h : ¬ s ≤ e) : alarmB l s e n = false := by simp [alarmB, h]
theorem al_high {l : List Lab} {s e : Int} {n : ByteArray} (h : ¬ e ≤ 99999) : alarmB l s e n = false := by simp [alarmB, h]
theorem al_yes {l : List Lab} {s e : Int} {n : ByteArray} (h1 : setB l = true) (h2 : 0 < l.length) (h3 : 0 ≤ s) (h4 : s ≤ e) (h5 : e ≤ 99999) : alarmB l s e n = plainB n := by
  simp [alarmB, h1, h2, h3, h4, h5]
theorem al_in1 {l : List Lab} {s e : Int} {n : ByteArray} (h : inB s 0 99999 = false) : alarmB l s e n = false := by
  by_cases h0 : 0 ≤ s
  · by_cases h1 : s ≤ e
    · refine al_high fun h2 => ?_
      rw [inB_true h0 (by omega)] at h; cases h
    · exact al_mid h1
  · exact al_low h0
theorem al_in2 {l : List Lab} {s e : Int} {n : ByteArray} (h : inB e s 99999 = false) : alarmB l s e n = false := by
  by_cases h1 : s ≤ e
  · refine al_high fun h2 => ?_
    rw [inB_true h1 h2] at h; cases h
  · exact al_mid h1
theorem al_in {l : List Lab} {s e : Int} {n : ByteArray} (h1 : setB l = true) (h2 : 0 < l.length) (h3 : inB s 0 99999 = true) (h4 : inB e s 99999 = true) : alarmB l s e n = plainB n := by
  unfold inB at h3 h4
  have h3' := of_decide_eq_true h3
  have h4' := of_decide_eq_true h4
  exact al_yes h1 h2 h3'.1 h4'.1 h4'.2

set_option maxHeartbeats 800000 in
theorem specAlarm_any (a : Option Addr) (cap : Nat) (l : List Lab) (s e : Int) (n : ByteArray) (w : World) (h : AlIn w a l s e n) :
    Calls Tryz.prog 136 #[.agg #[.slice a l.length cap, .int .i64 s, .int .i64 e, .string n]] w fun r w' => r = .returned (.bool (alarmB l s e n)) ∧ Below w.heap.size w w' := by
  have HA : Hid (AlIn w a l s e n) := h
  clear h
  go_enter Tryz.func136, Tryz.ntmps136
  go_wp2_with fail
  refine (LabO.specSet_any a cap l _ (HA.out.reads.below ((Below.refl _ _).alloc (Nat.le_refl _) _)) HA.out.len HA.out.fits).mono ?_
  rintro r w1 ⟨rfl, hb⟩
  have c0 : w1.cell? ⟨w.heap.size, 0, none⟩ = some (.slice a l.length cap) := at_par hb 0 rfl
  have c1 : w1.cell? ⟨w.heap.size, 1, none⟩ = some (.int .i64 s) := at_par hb 1 rfl
  have c2 : w1.cell? ⟨w.heap.size, 2, none⟩ = some (.int .i64 e) := at_par hb 2 rfl
  have c3 : w1.cell? ⟨w.heap.size, 3, none⟩ = some (.string n) := at_par hb 3 rfl
  have HB : Hid (Below w.heap.size w w1) := grow_on ((Below.refl _ _).alloc (Nat.le_refl _) _) hb
  clear hb
  cases hs : setB l with
  | false =>
    go_wp2
    go_ret
    exact ⟨retB (al_set hs).symm, HB.out⟩
  | true =>
    have HS : Hid (setB l = true) := hs
    clear hs
    by_cases h0 : 0 < l.length
    · have h0' : (0 : Int) < (l.length : Int) := by omega
      have H0 : Hid (0 < l.length) := h0
      clear h0
      go_wp2_with fail
      refine (Names.l1In_any s 0 99999 _).mono ?_
      rintro r w2 ⟨rfl, rfl⟩
      cases h1 : inB s 0 99999 with
      | false =>
        go_wp2
        go_ret
        exact ⟨retB (al_in1 h1).symm, HB.out⟩
      | true =>
        have H1 : Hid (inB s 0 99999 = true) := h1
        clear h1
        go_wp2_with fail
        refine (Names.l1In_any e s 99999 _).mono ?_
        rintro r w3 ⟨rfl, rfl⟩
        cases h2 : inB e s 99999 with
        | false =>
          go_wp2
          go_ret
          exact ⟨retB (al_in2 h2).symm, HB.out⟩
        | true =>
          have H2 : Hid (inB e s 99999 = true) := h2
          clear h2
          go_wp2_with fail
          refine (Names.specPlain_any n _ HA.out.note).mono ?_
          rintro r w4 ⟨rfl, rfl⟩
          go_wp2
          go_ret
          exact ⟨retB (al_in HS.out H0.out H1.out H2.out).symm, HB.out⟩
    · have h0' : ¬ (0 : Int) < (l.length : Int) := by omega
      have H0 : Hid (¬ 0 < l.length) := h0
      clear h0
      go_wp2
      go_ret
      exact ⟨retB (al_len H0.out).symm, HB.out⟩

set_option maxHeartbeats 800000 in
theorem implAlarm_any (a : Option Addr) (cap : Nat) (l : List Lab) (s e : Int) (n : ByteArray) (w : World) (h : AlIn w a l s e n) :
    Calls Tryz.prog 135 #[.agg #[.slice a l.length cap, .int .i64 s, .int .i64 e, .string n]] w fun r w' => r = .returned (.bool (alarmB l s e n)) ∧ Below w.heap.size w w' := by
  have HA : Hid (AlIn w a l s e n) := h
  clear h
  by_cases h0 : 0 < l.length
  · have h0' : (0 : Int) < (l.length : Int) := by omega
    have H0 : Hid (0 < l.length) := h0
    clear h0
    go_enter Tryz.func135, Tryz.ntmps135
    go_wp2_with fail
    refine (LabO.implSet_any a cap l _ (HA.out.reads.below ((Below.refl _ _).alloc (Nat.le_refl _) _)) HA.out.len HA.out.fits).mono ?_
    rintro r w1 ⟨rfl, hb⟩
    have c0 : w1.cell? ⟨w.heap.size, 0, none⟩ = some (.slice a l.length cap) := at_par hb 0 rfl
    have c1 : w1.cell? ⟨w.heap.size, 1, none⟩ = some (.int .i64 s) := at_par hb 1 rfl
    have c2 : w1.cell? ⟨w.heap.size, 2, none⟩ = some (.int .i64 e) := at_par hb 2 rfl
    have c3 : w1.cell? ⟨w.heap.size, 3, none⟩ = some (.string n) := at_par hb 3 rfl
    have HB : Hid (Below w.heap.size w w1) := grow_on ((Below.refl _ _).alloc (Nat.le_refl _) _) hb
    clear hb
    cases hs : setB l with
    | false =>
      go_wp2
      go_ret
      exact ⟨retB (al_set hs).symm, HB.out⟩
    | true =>
      have HS : Hid (setB l = true) := hs
      clear hs
      by_cases h1 : 0 ≤ s
      · by_cases h2 : s ≤ e
        · by_cases h3 : e ≤ 99999
          · go_wp2_with fail
            refine (Names.implPlain_any n _ HA.out.note).mono ?_
            rintro r w2 ⟨rfl, hb⟩
            have HB2 : Hid (Below w.heap.size w w2) := grow_on HB.out hb
            clear hb
            go_wp2
            go_ret
            exact ⟨retB (al_yes HS.out H0.out h1 h2 h3).symm, HB2.out⟩
          · go_wp2
            go_ret
            exact ⟨retB (al_high (by omega)).symm, HB.out⟩
        · go_wp2
          go_ret
          exact ⟨retB (al_mid (by omega)).symm, HB.out⟩
      · go_wp2
        go_ret
        exact ⟨retB (al_low (by omega)).symm, HB.out⟩
  · have h0' : ¬ (0 : Int) < (l.length : Int) := by omega
    have H0 : Hid (¬ 0 < l.length) := h0
    clear h0
    go_enter Tryz.func135, Tryz.ntmps135
    go_wp2
    go_ret
    exact ⟨retB (al_len H0.out).symm, (Below.refl _ _).alloc (Nat.le_refl _) _⟩

def overB (e now : Int) : Bool := decide (e ≤ now)
theorem specOver_any (v : Value) (s e : Int) (n : ByteArray) (now : Int) (w : World) :
    Calls Tryz.prog 131 #[.agg #[v, .int .i64 s, .int .i64 e, .string n], .int .i64 now] w fun r w' => r = .returned (.bool (overB e now)) ∧ Below w.heap.size w w' := by
  by_cases h : e ≤ now
  · go_enter Tryz.func131, Tryz.ntmps131
    go_wp2
    go_ret
    exact ⟨retB (decide_eq_true h).symm, (Below.refl _ _).alloc (Nat.le_refl _) _⟩
  · go_enter Tryz.func131, Tryz.ntmps131
    go_wp2
    go_ret
    exact ⟨retB (decide_eq_false (by omega)).symm, (Below.refl _ _).alloc (Nat.le_refl _) _⟩
theorem implOver_any (v : Value) (s e : Int) (n : ByteArray) (now : Int) (w : World) :
    Calls Tryz.prog 27 #[.agg #[v, .int .i64 s, .int .i64 e, .string n], .int .i64 now] w fun r w' => r = .returned (.bool (overB e now)) ∧ Below w.heap.size w w' := by
  by_cases h : e ≤ now
  · go_enter Tryz.func27, Tryz.ntmps27
    go_wp2
    go_ret
    exact ⟨retB (decide_eq_true h).symm, (Below.refl _ _).alloc (Nat.le_refl _) _⟩
  · go_enter Tryz.func27, Tryz.ntmps27
    go_wp2
    go_ret
    exact ⟨retB (decide_eq_false (by omega)).symm, (Below.refl _ _).alloc (Nat.le_refl _) _⟩

def touchB (s e s' e' : Int) : Bool := decide (s ≤ e') && decide (s' ≤ e)
theorem touch_1 {s e s' e' : Int} (h : ¬ s ≤ e') : touchB s e s' e' = false := by simp [touchB, h]
theorem touch_2 {s e s' e' : Int} (h : ¬ s' ≤ e) : touchB s e s' e' = false := by simp [touchB, h]
theorem touch_y {s e s' e' : Int} (h : s ≤ e') (k : s' ≤ e) : touchB s e s' e' = true := by simp [touchB, h, k]
theorem specTouch_any (v v' : Value) (s e s' e' : Int) (n n' : ByteArray) (w : World) :
    Calls Tryz.prog 165 #[.agg #[v, .int .i64 s, .int .i64 e, .string n], .agg #[v', .int .i64 s', .int .i64 e', .string n']] w fun r w' => r = .returned (.bool (touchB s e s' e')) ∧ Below w.heap.size w w' := by
  have hb : ∀ o p, Below w.heap.size w ((w.alloc o).alloc p) := fun o p => ((Below.refl _ _).alloc (Nat.le_refl _) _).alloc (by simp) _
  have HB : ∀ o p, Hid (Below w.heap.size w ((w.alloc o).alloc p)) := hb
  clear hb
  by_cases h : s ≤ e'
  · by_cases k : s' ≤ e
    · go_enter Tryz.func165, Tryz.ntmps165
      go_wp2
      go_ret
      exact ⟨retB (touch_y h k).symm, (HB _ _).out⟩
    · go_enter Tryz.func165, Tryz.ntmps165
      go_wp2
      go_ret
      exact ⟨retB (touch_2 (by omega)).symm, (HB _ _).out⟩
  · go_enter Tryz.func165, Tryz.ntmps165
    go_wp2
    go_ret
    exact ⟨retB (touch_1 (by omega)).symm, (HB _ _).out⟩
theorem implTouch_any (v v' : Value) (s e s' e' : Int) (n n' : ByteArray) (w : World) :
    Calls Tryz.prog 92 #[.agg #[v, .int .i64 s, .int .i64 e, .string n], .agg #[v', .int .i64 s', .int .i64 e', .string n']] w fun r w' => r = .returned (.bool (touchB s e s' e')) ∧ Below w.heap.size w w' := by
  have hb : ∀ o p, Below w.heap.size w ((w.alloc o).alloc p) := fun o p => ((Below.refl _ _).alloc (Nat.le_refl _) _).alloc (by simp) _
  have HB : ∀ o p, Hid (Below w.heap.size w ((w.alloc o).alloc p)) := hb
  clear hb
  by_cases h : s ≤ e'
  · by_cases k : s' ≤ e
    · go_enter Tryz.func92, Tryz.ntmps92
      go_wp2
      go_ret
      exact ⟨retB (touch_y h k).symm, (HB _ _).out⟩
    · go_enter Tryz.func92, Tryz.ntmps92
      go_wp2
      go_ret
      exact ⟨retB (touch_2 (by omega)).symm, (HB _ _).out⟩
  · go_enter Tryz.func92, Tryz.ntmps92
    go_wp2
    go_ret
    exact ⟨retB (touch_1 (by omega)).symm, (HB _ _).out⟩

set_option maxHeartbeats 800000 in
theorem specSameA_any (a a' : Option Addr) (cap cap' : Nat) (l l' : List Lab) (s e s' e' : Int) (n n' : ByteArray) (w : World) (hr : Reads w a l) (hr' : Reads w a' l') (hl : l.length ≤ maxLen) (hl' : l'.length ≤ maxLen) :
    Calls Tryz.prog 170 #[.agg #[.slice a l.length cap, .int .i64 s, .int .i64 e, .string n], .agg #[.slice a' l'.length cap', .int .i64 s', .int .i64 e', .string n']] w fun r w' => r = .returned (.bool (sameB l s e n l' s' e' n')) ∧ Below w.heap.size w w' := by
  have HR : Hid (Reads w a l ∧ Reads w a' l' ∧ l.length ≤ maxLen ∧ l'.length ≤ maxLen) := ⟨hr, hr', hl, hl'⟩
  clear hr hr' hl hl'
  go_enter Tryz.func170, Tryz.ntmps170
  go_wp2_with fail
  refine (calls_drew (LabS.specSame_any a a' cap cap' l l' _ (HR.out.1.below (Go.Joins.below_alloc2 w _ _)) (HR.out.2.1.below (Go.Joins.below_alloc2 w _ _)) HR.out.2.2.1 HR.out.2.2.2)).mono ?_
  rintro r w1 ⟨rfl, hb⟩
  have hP : Blk w1 w.heap.size #[.slice a l.length cap, .int .i64 s, .int .i64 e, .string n] 29 := ((Blk.new _ _ _).alloc _).grow hb
  have hQ : Blk w1 (w.heap.size + 1) #[.slice a' l'.length cap', .int .i64 s', .int .i64 e', .string n'] 29 := (Blk.new_at (by simp)).grow hb
  have p0 : w1.cell? ⟨w.heap.size, 0, none⟩ = some (.slice a l.length cap) := hP.cell 0
  have p1 : w1.cell? ⟨w.heap.size, 1, none⟩ = some (.int .i64 s) := hP.cell 1
  have p2 : w1.cell? ⟨w.heap.size, 2, none⟩ = some (.int .i64 e) := hP.cell 2
  have p3 : w1.cell? ⟨w.heap.size, 3, none⟩ = some (.string n) := hP.cell 3
  have q0 : w1.cell? ⟨w.heap.size + 1, 0, none⟩ = some (.slice a' l'.length cap') := hQ.cell 0
  have q1 : w1.cell? ⟨w.heap.size + 1, 1, none⟩ = some (.int .i64 s') := hQ.cell 1
  have q2 : w1.cell? ⟨w.heap.size + 1, 2, none⟩ = some (.int .i64 e') := hQ.cell 2
  have q3 : w1.cell? ⟨w.heap.size + 1, 3, none⟩ = some (.string n') := hQ.cell 3
  have HB : Hid (Below w.heap.size w w1) := grow_on (Go.Joins.below_alloc2 w _ _) hb
  clear hb hP hQ
  by_cases h0 : l = l'
  · have g0 : decide (l = l') = true := decide_eq_true h0
    have H0 : Hid (l = l') := h0
    clear h0
    by_cases h1 : s = s'
    · by_cases h2 : e = e'
      · by_cases h3 : n = n'
        · have g3 := beqS_yes h3
          have HE : Hid (sameB l s e n l' s' e' n' = true) := by
            have h0 := H0.out
            subst h0 h1 h2 h3
            exact same_self _ _ _ _
          clear h3
          go_wp2
          go_ret
          exact ⟨retB HE.out.symm, HB.out⟩
        · have g3 := beqS_no h3
          have HE : Hid (sameB l s e n l' s' e' n' = false) := same_n h3
          clear h3
          go_wp2
          go_ret
          exact ⟨retB HE.out.symm, HB.out⟩
      · have HE : Hid (sameB l s e n l' s' e' n' = false) := same_e h2
        go_wp2
        go_ret
        exact ⟨retB HE.out.symm, HB.out⟩
    · have HE : Hid (sameB l s e n l' s' e' n' = false) := same_s h1
      go_wp2
      go_ret
      exact ⟨retB HE.out.symm, HB.out⟩
  · have g0 : decide (l = l') = false := decide_eq_false h0
    have HE : Hid (sameB l s e n l' s' e' n' = false) := same_l h0
    clear h0
    go_wp2
    go_ret
    exact ⟨retB HE.out.symm, HB.out⟩

theorem less_any (v : Value) (s e : Int) (n : ByteArray) (w : World) :
    Calls Tryz.prog 84 #[.agg #[v, .int .i64 s, .int .i64 e, .string n]] w fun r w' => r = .returned (.agg #[.int .i64 s, .int .i64 e, .string n]) ∧ Below w.heap.size w w' := by
  go_enter Tryz.func84, Tryz.ntmps84
  go_wp2
  exact bodyPost_ret (v := .agg #[.int .i64 s, .int .i64 e, .string n]) (by simp [results, Tryz.results84, go_sem]) rfl ⟨rfl, Go.Joins.below_alloc2 w _ _⟩

set_option maxHeartbeats 800000 in
theorem implSameA_any (a a' : Option Addr) (cap cap' : Nat) (l l' : List Lab) (s e s' e' : Int) (n n' : ByteArray) (w : World) (hr : Reads w a l) (hr' : Reads w a' l') (hl : l.length ≤ maxLen) (hl' : l'.length ≤ maxLen) :
    Calls Tryz.prog 20 #[.agg #[.slice a l.length cap, .int .i64 s, .int .i64 e, .string n], .agg #[.slice a' l'.length cap', .int .i64 s', .int .i64 e', .string n']] w fun r w' => r = .returned (.bool (sameB l s e n l' s' e' n')) ∧ Below w.heap.size w w' := by
  have HR : Hid (Reads w a l ∧ Reads w a' l' ∧ l.length ≤ maxLen ∧ l'.length ≤ maxLen) := ⟨hr, hr', hl, hl'⟩
  clear hr hr' hl hl'
  go_enter Tryz.func20, Tryz.ntmps20
  go_wp2_with fail
  generalize hz : (w.alloc (.cells #[.slice a l.length cap, .int .i64 s, .int .i64 e, .string n] 29)).alloc (.cells #[.slice a' l'.length cap', .int .i64 s', .int .i64 e', .string n'] 29) = z
  have hP : Blk z w.heap.size #[.slice a l.length cap, .int .i64 s, .int .i64 e, .string n] 29 := by rw [← hz]; exact (Blk.new _ _ _).alloc _
  have hQ : Blk z (w.heap.size + 1) #[.slice a' l'.length cap', .int .i64 s', .int .i64 e', .string n'] 29 := by rw [← hz]; exact Blk.new_at (by simp)
  have HB : Hid (Below w.heap.size w z) := by rw [← hz]; exact Go.Joins.below_alloc2 w _ _
  clear hz
  have hne := Grown.some z
  have p0 : ∀ x : Grown z, x.out.cell? ⟨w.heap.size, 0, none⟩ = some (.slice a l.length cap) := fun x => x.cell hP.lt (hP.cell 0)
  have p1 : ∀ x : Grown z, x.out.cell? ⟨w.heap.size, 1, none⟩ = some (.int .i64 s) := fun x => x.cell hP.lt (hP.cell 1)
  have p2 : ∀ x : Grown z, x.out.cell? ⟨w.heap.size, 2, none⟩ = some (.int .i64 e) := fun x => x.cell hP.lt (hP.cell 2)
  have p3 : ∀ x : Grown z, x.out.cell? ⟨w.heap.size, 3, none⟩ = some (.string n) := fun x => x.cell hP.lt (hP.cell 3)
  have q0 : ∀ x : Grown z, x.out.cell? ⟨w.heap.size + 1, 0, none⟩ = some (.slice a' l'.length cap') := fun x => x.cell hQ.lt (hQ.cell 0)
  have q1 : ∀ x : Grown z, x.out.cell? ⟨w.heap.size + 1, 1, none⟩ = some (.int .i64 s') := fun x => x.cell hQ.lt (hQ.cell 1)
  have q2 : ∀ x : Grown z, x.out.cell? ⟨w.heap.size + 1, 2, none⟩ = some (.int .i64 e') := fun x => x.cell hQ.lt (hQ.cell 2)
  have q3 : ∀ x : Grown z, x.out.cell? ⟨w.heap.size + 1, 3, none⟩ = some (.string n') := fun x => x.cell hQ.lt (hQ.cell 3)
  have HC : ∀ x : Grown z, Hid (Calls Tryz.prog 85 #[.slice a l.length cap, .slice a' l'.length cap'] x.out fun r w' => r = .returned (.bool (decide (l = l'))) ∧ Below x.out.heap.size x.out w') := fun x => calls_drew (LabS.implSame_any a a' cap cap' l l' x.out ((HR.out.1.below HB.out).below x.bel) ((HR.out.2.1.below HB.out).below x.bel) HR.out.2.2.1 HR.out.2.2.2)
  clear hP hQ HR
  by_cases h1 : s = s'
  · by_cases h2 : e = e'
    · by_cases h3 : n = n'
      · have HE : Hid (sameB l s e n l' s' e' n' = decide (l = l')) := by
          show _ = _
          simp [sameB, h1, h2, h3]
        subst h1 h2 h3
        have g3 : (n.toList == n.toList) = true := beqS_yes rfl
        refine wp_over (z := z) (by kernel_rfl) (by kernel_rfl) (Below.refl _ _) ?_
        repeat (go_big_quiet_step (first | (go_at_call 84; exact call_over (less_any _ _ _ _ _)) | (go_at_call 85; exact call_over (HC _).out)))
        refine wpQuiet_nil ?_
        intro w2 hw2
        have hb2 := over_bel hw2
        clear hw2 hne
        go_wp2
        go_ret
        exact ⟨retB HE.out.symm, grow_on HB.out hb2⟩
      · have HE : Hid (sameB l s e n l' s' e' n' = false) := same_n h3
        subst h1 h2
        have g3 := beqS_no h3
        clear h3
        refine wp_over (z := z) (by kernel_rfl) (by kernel_rfl) (Below.refl _ _) ?_
        repeat (go_big_quiet_step (first | (go_at_call 84; exact call_over (less_any _ _ _ _ _)) | (go_at_call 85; exact call_over (HC _).out)))
        refine wpQuiet_nil ?_
        intro w2 hw2
        have hb2 := over_bel hw2
        clear hw2 hne
        go_wp2
        go_ret
        exact ⟨retB HE.out.symm, grow_on HB.out hb2⟩
    · have HE : Hid (sameB l s e n l' s' e' n' = false) := same_e h2
      subst h1
      have g2 : (e == e') = false := by simpa using h2
      refine wp_over (z := z) (by kernel_rfl) (by kernel_rfl) (Below.refl _ _) ?_
      repeat (go_big_quiet_step (first | (go_at_call 84; exact call_over (less_any _ _ _ _ _)) | (go_at_call 85; exact call_over (HC _).out)))
      refine wpQuiet_nil ?_
      intro w2 hw2
      have hb2 := over_bel hw2
      clear hw2 hne
      go_wp2
      go_ret
      exact ⟨retB HE.out.symm, grow_on HB.out hb2⟩
  · have HE : Hid (sameB l s e n l' s' e' n' = false) := same_s h1
    have g1 : (s == s') = false := by simpa using h1
    refine wp_over (z := z) (by kernel_rfl) (by kernel_rfl) (Below.refl _ _) ?_
    repeat (go_big_quiet_step (first | (go_at_call 84; exact call_over (less_any _ _ _ _ _)) | (go_at_call 85; exact call_over (HC _).out)))
    refine wpQuiet_nil ?_
    intro w2 hw2
    have hb2 := over_bel hw2
    clear hw2 hne
    go_wp2
    go_ret
    exact ⟨retB HE.out.symm, grow_on HB.out hb2⟩
end Go.Proofs.YtooninmicfcfoaaGreat.AlmS
