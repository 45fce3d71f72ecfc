/-
  PROVED: the contracts of what the exact laws call over an alarm: the size that szAlarm counts, the copy that toAlarm makes, whether eqAlarm finds two alike; what an alarm that came in is.
  PROVED: over an alarm whose labels lie in memory spec.AlarmOk and impl.AlarmOk, SameAlarm, Over and Touch answer alike, each as a plain function says; nothing that was there is changed.
  PROVED: over two alarms whose labels lie in memory spec.Merge and impl.Merge answer alike, in memory of their own; nothing that was there is changed.
-/
import Derived.Test.YtgncimlojbnbfaaGreatQLabT
import Derived.Lib.SmallJoins
import Derived.Test.YtgncimlojbnbfaaGreatQLabO
import Derived.Test.YtgncimlojbnbfaaGreatQLabR
import Derived.Test.YtgncimlojbnbfaaGreatQApp
set_option linter.unusedVariables false
namespace Go.Proofs.YtgncimlojbnbfaaGreat.Alm
open Go.RowKit
open Labs LabS LabT Over Blk
open StrB (retB)

structure AlIn (w : World) (a : Option Addr) (l : List Lab) (s e : Int) (n : ByteArray) : Prop where
  reads : Reads w a l
  len : l.length ≤ maxLen
  fits : Fits l
  sb : -9223372036854775808 ≤ s ∧ s ≤ 9223372036854775807
  eb : -9223372036854775808 ≤ e ∧ e ≤ 9223372036854775807
  note : n.size ≤ maxLen
def sameB (l : List Lab) (s e : Int) (n : ByteArray) (l' : List Lab) (s' e' : Int) (n' : ByteArray) : Bool := decide (l = l') && decide (s = s') && decide (e = e') && decide (n = n')
theorem same_self (l : List Lab) (s e : Int) (n : ByteArray) : sameB l s e n l s e n = true := by simp [sameB]
theorem same_s {l l' : List Lab} {s e s' e' : Int} {n n' : ByteArray} (h : s ≠ s') : sameB l s e n l' s' e' n' = false := by simp [sameB, h]
theorem same_e {l l' : List Lab} {s e s' e' : Int} {n n' : ByteArray} (h : e ≠ e') : sameB l s e n l' s' e' n' = false := by simp [sameB, h]
theorem same_n {l l' : List Lab} {s e s' e' : Int} {n n' : ByteArray} (h : n ≠ n') : sameB l s e n l' s' e' n' = false := by simp [sameB, h]

theorem at_par {w w1 : World} {cs : Array Value} {T : TypeId} (hb : Below (w.alloc (.cells cs T)).heap.size (w.alloc (.cells cs T)) w1) (i : Nat) {v : Value} (h : cs[i]? = some v) : w1.cell? ⟨w.heap.size, i, none⟩ = some v := by
  rw [hb.cell (by simp), World.cell?_alloc_new]; exact h

theorem set4 {B M : Nat} {w w' : World} (h : Below B w w') (hM : B ≤ M) (v0 v1 v2 v3 : Value) : Below B w ((((w'.setCell ⟨M, 0, none⟩ v0).setCell ⟨M, 1, none⟩ v1).setCell ⟨M, 2, none⟩ v2).setCell ⟨M, 3, none⟩ v3) :=
  (((h.setCell hM _).setCell hM _).setCell hM _).setCell hM _
theorem blk4 {w : World} {M N : Nat} {cs : Array Value} {T : TypeId} (h : Blk w N cs T) (hne : M ≠ N) (v0 v1 v2 v3 : Value) : Blk ((((w.setCell ⟨M, 0, none⟩ v0).setCell ⟨M, 1, none⟩ v1).setCell ⟨M, 2, none⟩ v2).setCell ⟨M, 3, none⟩ v3) N cs T :=
  (((h.set_other hne _).set_other hne _).set_other hne _).set_other hne _
theorem below3 (w : World) (o1 o2 o3 : Obj) : Below w.heap.size w (((w.alloc o1).alloc o2).alloc o3) := Go.Joins.below_alloc3 w o1 o2 o3
end Go.Proofs.YtgncimlojbnbfaaGreat.Alm
namespace Go.Proofs.YtgncimlojbnbfaaGreat.AlmS
open Go.RowKit
open Labs LabS Alm Over Blk
open LabO (setB)
open Names (inB inB_true inB_false plainB)
open StrB (retB)

def alarmB (l : List Lab) (s e : Int) (n : ByteArray) : Bool := setB l && (decide (0 < l.length) && (decide (0 ≤ s) && (decide (s ≤ e) && (decide (e ≤ 99999) && plainB n))))
theorem al_set {l : List Lab} {s e : Int} {n : ByteArray} (h : setB l = false) : alarmB l s e n = false := by simp [alarmB, h]
theorem al_len {l : List Lab} {s e : Int} {n : ByteArray} (h : ¬ 0 < l.length) : alarmB l s e n = false := by
  have : l.length = 0 := by omega
  simp [alarmB, this]
theorem al_low {l : List Lab} {s e : Int} {n : ByteArray} (h : ¬ 0 ≤ s) : alarmB l s e n = false := by simp [alarmB, h]
theorem al_mid {l : List Lab} {s e : Int} {n : ByteArray} (h : ¬ s ≤ e) : alarmB l s e n = false := by simp [alarmB, h]
theorem al_high {l : List Lab} {s e : Int} {n : ByteArray} (h : ¬ e ≤ 99999) : alarmB l s e n = false := by simp [alarmB, h]
theorem al_yes {l : List Lab} {s e : Int} {n : ByteArray} (h1 : setB l = true) (h2 : 0 < l.length) (h3 : 0 ≤ s) (h4 : s ≤ e) (h5 : e ≤ 99999) : alarmB l s e n = plainB n := by
  simp [alarmB, h1, h2, h3, h4, h5]
theorem al_in1 {l : List Lab} {s e : Int} {n : ByteArray} (h : inB s 0 99999 = false) : alarmB l s e n = false := by
  by_cases h0 : 0 ≤ s
  · by_cases h1 : s ≤ e
    · refine al_high fun h2 => ?_
      rw [inB_true h0 (by omega)] at h; cases h
    · exact al_mid h1
  · exact al_low h0
theorem al_in2 {l : List Lab} {s e : Int} {n : ByteArray} (h : inB e s 99999 = false) : alarmB l s e n = false := by
  by_cases h1 : s ≤ e
  · refine al_high fun h2 => ?_
    rw [inB_true h1 h2] at h; cases h
  · exact al_mid h1
theorem al_in {l : List Lab} {s e : Int} {n : ByteArray} (h1 : setB l = true) (h2 : 0 < l.length) (h3 : inB s 0 99999 = true) (h4 : inB e s 99999 = true) : alarmB l s e n = plainB n := by
  unfold inB at h3 h4
  have h3' := of_decide_eq_true h3
  have h4' := of_decide_eq_true h4
  exact al_yes h1 h2 h3'.1 h4'.1 h4'.2

set_option maxHeartbeats 800000 in
theorem specAlarm_any (a : Option Addr) (cap : Nat) (l : List Lab) (s e : Int) (n : ByteArray) (w : World) (h : AlIn w a l s e n) :
    Calls Tryz.prog 81 #[.agg #[.slice a l.length cap, .int .i64 s, .int .i64 e, .string n]] w fun r w' => r = .returned (.bool (alarmB l s e n)) ∧ Below w.heap.size w w' := by
  have HA : Hid (AlIn w a l s e n) := h
  clear h
  go_enter Tryz.func81, Tryz.ntmps81
  go_wp2_with fail
  refine (LabO.specSet_any a cap l _ (HA.out.reads.below ((Below.refl _ _).alloc (Nat.le_refl _) _)) HA.out.len HA.out.fits).mono ?_
  rintro r w1 ⟨rfl, hb⟩
  have c0 : w1.cell? ⟨w.heap.size, 0, none⟩ = some (.slice a l.length cap) := at_par hb 0 rfl
  have c1 : w1.cell? ⟨w.heap.size, 1, none⟩ = some (.int .i64 s) := at_par hb 1 rfl
  have c2 : w1.cell? ⟨w.heap.size, 2, none⟩ = some (.int .i64 e) := at_par hb 2 rfl
  have c3 : w1.cell? ⟨w.heap.size, 3, none⟩ = some (.string n) := at_par hb 3 rfl
  have HB : Hid (Below w.heap.size w w1) := grow_on ((Below.refl _ _).alloc (Nat.le_refl _) _) hb
  clear hb
  cases hs : setB l with
  | false =>
    go_wp2
    go_ret
    exact ⟨retB (al_set hs).symm, HB.out⟩
  | true =>
    have HS : Hid (setB l = true) := hs
    clear hs
    by_cases h0 : 0 < l.length
    · have h0' : (0 : Int) < (l.length : Int) := by omega
      have H0 : Hid (0 < l.length) := h0
      clear h0
      go_wp2_with fail
      refine (Names.l1In_any s 0 99999 _).mono ?_
      rintro r w2 ⟨rfl, rfl⟩
      cases h1 : inB s 0 99999 with
      | false =>
        go_wp2
        go_ret
        exact ⟨retB (al_in1 h1).symm, HB.out⟩
      | true =>
        have H1 : Hid (inB s 0 99999 = true) := h1
        clear h1
        go_wp2_with fail
        refine (Names.l1In_any e s 99999 _).mono ?_
        rintro r w3 ⟨rfl, rfl⟩
        cases h2 : inB e s 99999 with
        | false =>
          go_wp2
          go_ret
          exact ⟨retB (al_in2 h2).symm, HB.out⟩
        | true =>
          have H2 : Hid (inB e s 99999 = true) := h2
          clear h2
          go_wp2_with fail
          refine (Names.specPlain_any n _ HA.out.note).mono ?_
          rintro r w4 ⟨rfl, rfl⟩
          go_wp2
          go_ret
          exact ⟨retB (al_in HS.out H0.out H1.out H2.out).symm, HB.out⟩
    · have h0' : ¬ (0 : Int) < (l.length : Int) := by omega
      have H0 : Hid (¬ 0 < l.length) := h0
      clear h0
      go_wp2
      go_ret
      exact ⟨retB (al_len H0.out).symm, HB.out⟩

set_option maxHeartbeats 800000 in
theorem implAlarm_any (a : Option Addr) (cap : Nat) (l : List Lab) (s e : Int) (n : ByteArray) (w : World) (h : AlIn w a l s e n) :
    Calls Tryz.prog 105 #[.agg #[.slice a l.length cap, .int .i64 s, .int .i64 e, .string n]] w fun r w' => r = .returned (.bool (alarmB l s e n)) ∧ Below w.heap.size w w' := by
  have HA : Hid (AlIn w a l s e n) := h
  clear h
  by_cases h0 : 0 < l.length
  · have h0' : (0 : Int) < (l.length : Int) := by omega
    have H0 : Hid (0 < l.length) := h0
    clear h0
    go_enter Tryz.func105, Tryz.ntmps105
    go_wp2_with fail
    refine (LabO.implSet_any a cap l _ (HA.out.reads.below ((Below.refl _ _).alloc (Nat.le_refl _) _)) HA.out.len HA.out.fits).mono ?_
    rintro r w1 ⟨rfl, hb⟩
    have c0 : w1.cell? ⟨w.heap.size, 0, none⟩ = some (.slice a l.length cap) := at_par hb 0 rfl
    have c1 : w1.cell? ⟨w.heap.size, 1, none⟩ = some (.int .i64 s) := at_par hb 1 rfl
    have c2 : w1.cell? ⟨w.heap.size, 2, none⟩ = some (.int .i64 e) := at_par hb 2 rfl
    have c3 : w1.cell? ⟨w.heap.size, 3, none⟩ = some (.string n) := at_par hb 3 rfl
    have HB : Hid (Below w.heap.size w w1) := grow_on ((Below.refl _ _).alloc (Nat.le_refl _) _) hb
    clear hb
    cases hs : setB l with
    | false =>
      go_wp2
      go_ret
      exact ⟨retB (al_set hs).symm, HB.out⟩
    | true =>
      have HS : Hid (setB l = true) := hs
      clear hs
      by_cases h1 : 0 ≤ s
      · by_cases h2 : s ≤ e
        · by_cases h3 : e ≤ 99999
          · go_wp2_with fail
            refine (Names.implPlain_any n _ HA.out.note).mono ?_
            rintro r w2 ⟨rfl, hb⟩
            have HB2 : Hid (Below w.heap.size w w2) := grow_on HB.out hb
            clear hb
            go_wp2
            go_ret
            exact ⟨retB (al_yes HS.out H0.out h1 h2 h3).symm, HB2.out⟩
          · go_wp2
            go_ret
            exact ⟨retB (al_high (by omega)).symm, HB.out⟩
        · go_wp2
          go_ret
          exact ⟨retB (al_mid (by omega)).symm, HB.out⟩
      · go_wp2
        go_ret
        exact ⟨retB (al_low (by omega)).symm, HB.out⟩
  · have h0' : ¬ (0 : Int) < (l.length : Int) := by omega
    have H0 : Hid (¬ 0 < l.length) := h0
    clear h0
    go_enter Tryz.func105, Tryz.ntmps105
    go_wp2
    go_ret
    exact ⟨retB (al_len H0.out).symm, (Below.refl _ _).alloc (Nat.le_refl _) _⟩

def overB (e now : Int) : Bool := decide (e ≤ now)
theorem specOver_any (v : Value) (s e : Int) (n : ByteArray) (now : Int) (w : World) :
    Calls Tryz.prog 73 #[.agg #[v, .int .i64 s, .int .i64 e, .string n], .int .i64 now] w fun r w' => r = .returned (.bool (overB e now)) ∧ Below w.heap.size w w' := by
  by_cases h : e ≤ now
  · go_enter Tryz.func73, Tryz.ntmps73
    go_wp2
    go_ret
    exact ⟨retB (decide_eq_true h).symm, (Below.refl _ _).alloc (Nat.le_refl _) _⟩
  · go_enter Tryz.func73, Tryz.ntmps73
    go_wp2
    go_ret
    exact ⟨retB (decide_eq_false (by omega)).symm, (Below.refl _ _).alloc (Nat.le_refl _) _⟩
theorem implOver_any (v : Value) (s e : Int) (n : ByteArray) (now : Int) (w : World) :
    Calls Tryz.prog 70 #[.agg #[v, .int .i64 s, .int .i64 e, .string n], .int .i64 now] w fun r w' => r = .returned (.bool (overB e now)) ∧ Below w.heap.size w w' := by
  by_cases h : e ≤ now
  · go_enter Tryz.func70, Tryz.ntmps70
    go_wp2
    go_ret
    exact ⟨retB (decide_eq_true h).symm, (Below.refl _ _).alloc (Nat.le_refl _) _⟩
  · go_enter Tryz.func70, Tryz.ntmps70
    go_wp2
    go_ret
    exact ⟨retB (decide_eq_false (by omega)).symm, (Below.refl _ _).alloc (Nat.le_refl _) _⟩

theorem less_any (v : Value) (s e : Int) (n : ByteArray) (w : World) :
    Calls Tryz.prog 77 #[.agg #[v, .int .i64 s, .int .i64 e, .string n]] w fun r w' => r = .returned (.agg #[.int .i64 s, .int .i64 e, .string n]) ∧ Below w.heap.size w w' := by
  go_enter Tryz.func77, Tryz.ntmps77
  go_wp2
  exact bodyPost_ret (v := .agg #[.int .i64 s, .int .i64 e, .string n]) (by simp [results, Tryz.results77, go_sem]) rfl ⟨rfl, Go.Joins.below_alloc2 w _ _⟩

set_option maxHeartbeats 800000 in
theorem implSameA_any (a a' : Option Addr) (cap cap' : Nat) (l l' : List Lab) (s e s' e' : Int) (n n' : ByteArray) (w : World) (hr : Reads w a l) (hr' : Reads w a' l') (hl : l.length ≤ maxLen) (hl' : l'.length ≤ maxLen) :
    Calls Tryz.prog 46 #[.agg #[.slice a l.length cap, .int .i64 s, .int .i64 e, .string n], .agg #[.slice a' l'.length cap', .int .i64 s', .int .i64 e', .string n']] w fun r w' => r = .returned (.bool (sameB l s e n l' s' e' n')) ∧ Below w.heap.size w w' := by
  have HR : Hid (Reads w a l ∧ Reads w a' l' ∧ l.length ≤ maxLen ∧ l'.length ≤ maxLen) := ⟨hr, hr', hl, hl'⟩
  clear hr hr' hl hl'
  go_enter Tryz.func46, Tryz.ntmps46
  go_wp2_with fail
  generalize hz : (w.alloc (.cells #[.slice a l.length cap, .int .i64 s, .int .i64 e, .string n] 27)).alloc (.cells #[.slice a' l'.length cap', .int .i64 s', .int .i64 e', .string n'] 27) = z
  have hP : Blk z w.heap.size #[.slice a l.length cap, .int .i64 s, .int .i64 e, .string n] 27 := by rw [← hz]; exact (Blk.new _ _ _).alloc _
  have hQ : Blk z (w.heap.size + 1) #[.slice a' l'.length cap', .int .i64 s', .int .i64 e', .string n'] 27 := by rw [← hz]; exact Blk.new_at (by simp)
  have HB : Hid (Below w.heap.size w z) := by rw [← hz]; exact Go.Joins.below_alloc2 w _ _
  clear hz
  have hne := Grown.some z
  have p0 : ∀ x : Grown z, x.out.cell? ⟨w.heap.size, 0, none⟩ = some (.slice a l.length cap) := fun x => x.cell hP.lt (hP.cell 0)
  have p1 : ∀ x : Grown z, x.out.cell? ⟨w.heap.size, 1, none⟩ = some (.int .i64 s) := fun x => x.cell hP.lt (hP.cell 1)
  have p2 : ∀ x : Grown z, x.out.cell? ⟨w.heap.size, 2, none⟩ = some (.int .i64 e) := fun x => x.cell hP.lt (hP.cell 2)
  have p3 : ∀ x : Grown z, x.out.cell? ⟨w.heap.size, 3, none⟩ = some (.string n) := fun x => x.cell hP.lt (hP.cell 3)
  have q0 : ∀ x : Grown z, x.out.cell? ⟨w.heap.size + 1, 0, none⟩ = some (.slice a' l'.length cap') := fun x => x.cell hQ.lt (hQ.cell 0)
  have q1 : ∀ x : Grown z, x.out.cell? ⟨w.heap.size + 1, 1, none⟩ = some (.int .i64 s') := fun x => x.cell hQ.lt (hQ.cell 1)
  have q2 : ∀ x : Grown z, x.out.cell? ⟨w.heap.size + 1, 2, none⟩ = some (.int .i64 e') := fun x => x.cell hQ.lt (hQ.cell 2)
  have q3 : ∀ x : Grown z, x.out.cell? ⟨w.heap.size + 1, 3, none⟩ = some (.string n') := fun x => x.cell hQ.lt (hQ.cell 3)
  have HC : ∀ x : Grown z, Hid (Calls Tryz.prog 44 #[.slice a l.length cap, .slice a' l'.length cap'] x.out fun r w' => r = .returned (.bool (decide (l = l'))) ∧ Below x.out.heap.size x.out w') := fun x => calls_drew (LabS.implSame_any a a' cap cap' l l' x.out ((HR.out.1.below HB.out).below x.bel) ((HR.out.2.1.below HB.out).below x.bel) HR.out.2.2.1 HR.out.2.2.2)
  clear hP hQ HR
  by_cases h1 : s = s'
  · by_cases h2 : e = e'
    · by_cases h3 : n = n'
      · have HE : Hid (sameB l s e n l' s' e' n' = decide (l = l')) := by
          show _ = _
          simp [sameB, h1, h2, h3]
        subst h1 h2 h3
        have g3 : (n.toList == n.toList) = true := beqS_yes rfl
        refine wp_over (z := z) (by kernel_rfl) (by kernel_rfl) (Below.refl _ _) ?_
        repeat (go_big_quiet_step (first | (go_at_call 77; exact call_over (less_any _ _ _ _ _)) | (go_at_call 44; exact call_over (HC _).out)))
        refine wpQuiet_nil ?_
        intro w2 hw2
        have hb2 := over_bel hw2
        clear hw2 hne
        go_wp2
        go_ret
        exact ⟨retB HE.out.symm, grow_on HB.out hb2⟩
      · have HE : Hid (sameB l s e n l' s' e' n' = false) := same_n h3
        subst h1 h2
        have g3 := beqS_no h3
        clear h3
        refine wp_over (z := z) (by kernel_rfl) (by kernel_rfl) (Below.refl _ _) ?_
        repeat (go_big_quiet_step (first | (go_at_call 77; exact call_over (less_any _ _ _ _ _)) | (go_at_call 44; exact call_over (HC _).out)))
        refine wpQuiet_nil ?_
        intro w2 hw2
        have hb2 := over_bel hw2
        clear hw2 hne
        go_wp2
        go_ret
        exact ⟨retB HE.out.symm, grow_on HB.out hb2⟩
    · have HE : Hid (sameB l s e n l' s' e' n' = false) := same_e h2
      subst h1
      have g2 : (e == e') = false := by simpa using h2
      refine wp_over (z := z) (by kernel_rfl) (by kernel_rfl) (Below.refl _ _) ?_
      repeat (go_big_quiet_step (first | (go_at_call 77; exact call_over (less_any _ _ _ _ _)) | (go_at_call 44; exact call_over (HC _).out)))
      refine wpQuiet_nil ?_
      intro w2 hw2
      have hb2 := over_bel hw2
      clear hw2 hne
      go_wp2
      go_ret
      exact ⟨retB HE.out.symm, grow_on HB.out hb2⟩
  · have HE : Hid (sameB l s e n l' s' e' n' = false) := same_s h1
    have g1 : (s == s') = false := by simpa using h1
    refine wp_over (z := z) (by kernel_rfl) (by kernel_rfl) (Below.refl _ _) ?_
    repeat (go_big_quiet_step (first | (go_at_call 77; exact call_over (less_any _ _ _ _ _)) | (go_at_call 44; exact call_over (HC _).out)))
    refine wpQuiet_nil ?_
    intro w2 hw2
    have hb2 := over_bel hw2
    clear hw2 hne
    go_wp2
    go_ret
    exact ⟨retB HE.out.symm, grow_on HB.out hb2⟩
end Go.Proofs.YtgncimlojbnbfaaGreat.AlmS
namespace Go.Proofs.YtgncimlojbnbfaaGreat.AlmM
open Go.RowKit
open Labs LabS LabR Alm AlmS Over Blk App
open LabT (infoL Held held_reads)
open StrB (retB)

theorem src_of {w : World} {ad : Addr} {l : List Lab} (h : Reads w (some ad) l) : ∀ j u, (flat l)[j]? = some u → w.cell? (ad.add j) = some u := fun j u hj => by
  rcases reads_src h with h0 | ⟨ad', e, h1⟩
  · have : l = [] := List.eq_nil_of_length_eq_zero h0
    subst this
    simp [flat] at hj
  · cases e; exact h1 j u hj
theorem own_row {w' : World} {B g n c : Nat} {l : List Lab} (h : w'.ownsRow B 99 2 (.slice (some ⟨g, 0, none⟩) n c) l.length (flat l)) : B ≤ g ∧ ∃ cs : Array Value, Blk w' g cs 99 ∧ l.length * 2 ≤ cs.size ∧ Held cs l l.length := by
  rcases h.2 with ⟨e, _⟩ | ⟨g', cap', cur, e, hb, hg, hc, _, hz, ht⟩
  · cases e
  · cases e
    refine ⟨hb, cur, hg, ?_, fun j hj => ?_⟩
    · rw [hz]; omega
    · have h2 := flat_get l j hj
      have hl := flat_len l
      rw [← ht, List.getElem?_take_of_lt (by omega), List.getElem?_take_of_lt (by omega)] at h2
      simpa using h2
theorem flat_heldL (l : List Lab) : Held (flat l).toArray l l.length := flat_held l

set_option maxHeartbeats 800000 in
theorem copyS_any (g o cap : Nat) (l : List Lab) (s e : Int) (n : ByteArray) (w : World) (hr : Reads w (some ⟨g, o, none⟩) l) (hl : l.length ≤ 1048576) :
    Calls Tryz.prog 37 #[.agg #[.slice (some ⟨g, o, none⟩) l.length cap, .int .i64 s, .int .i64 e, .string n]] w fun r w' => (∃ M c, r = .returned (.agg #[.slice (some ⟨M, 0, none⟩) l.length c, .int .i64 s, .int .i64 e, .string n]) ∧ Own w w' M l) ∧ Below w.heap.size w w' := by
  have HR : Hid (Reads w (some ⟨g, o, none⟩) l) := hr
  clear hr
  obtain ⟨i0, hi, hz0, hz1, hz2⟩ := info_parts infoL
  go_enter Tryz.func37, Tryz.ntmps37
  have HO : Hid ((((w.alloc (.cells #[.slice (some ⟨g, o, none⟩) l.length cap, .int .i64 s, .int .i64 e, .string n] 27)).alloc (.cells #[.slice none 0 0, .int .i64 0, .int .i64 0, .string ⟨#[]⟩] 27)).alloc (.cells #[] 99)).ownsRow (w.heap.size + 2) 99 2 (.slice (some ⟨w.heap.size + 2, 0, none⟩) 0 0) 0 []) := own_empty (Blk.new_at (by simp)) (Nat.le_refl _)
  go_wp2_with (at_builtin; refine wpList_append_own_at _ rfl _ _ 25 rfl (w.heap.size + 2) 99 i0 (.agg #[.string ByteArray.empty, .string ByteArray.empty]) 2 32 Tryz.underlying25 hi hz0 hz1 hz2 rfl (by decide) _ _ _ rfl HO.out ⟨g, o, none⟩ l.length cap (flat l) rfl (flat_len l) ?c1 (flat_one l) ?c3 ?c4 ?c5 ?_)
  case c1 => exact src_of (HR.out.below (below3 w _ _ _))
  case c3 => unfold maxLen; omega
  case c4 => omega
  case c5 => simp
  intro v' w4 hown hg hnil _
  have hlow : Below (w.heap.size + 2) ((w.alloc (.cells #[.slice (some ⟨g, o, none⟩) l.length cap, .int .i64 s, .int .i64 e, .string n] 27)).alloc (.cells #[.slice none 0 0, .int .i64 0, .int .i64 0, .string ⟨#[]⟩] 27)) w4 := ((Below.refl _ _).alloc (by simp) _).grown hg (by simp) (fun k hk => (HO.out.lt k hk).1)
  have hpl : w4.ownsRow (w.heap.size + 2) 99 2 v' l.length (flat l) := by simpa using hown
  obtain ⟨M, c, hv⟩ : ∃ g' c', v' = .slice (some ⟨g', 0, none⟩) l.length c' := by
    rcases hpl.2 with ⟨e, _⟩ | ⟨g', c', cur, e, _⟩
    · exact absurd e hnil
    · exact ⟨g', c', e⟩
  subst hv
  have HW : Hid (w.heap.size + 2 ≤ M ∧ ∃ cs : Array Value, Blk w4 M cs 99 ∧ l.length * 2 ≤ cs.size ∧ Held cs l l.length) := own_row hpl
  have hP : Blk w4 w.heap.size #[.slice (some ⟨g, o, none⟩) l.length cap, .int .i64 s, .int .i64 e, .string n] 27 := ((Blk.new _ _ _).alloc _).below hlow (by omega)
  have hR : Blk w4 (w.heap.size + 1) #[.slice none 0 0, .int .i64 0, .int .i64 0, .string ⟨#[]⟩] 27 := (Blk.new_at (by simp)).below hlow (by omega)
  have HB : Hid (Below w.heap.size w w4) := (Go.Joins.below_alloc2 w _ _).trans (hlow.mono (by omega))
  have P0 : w4.cell? ⟨w.heap.size, 0, none⟩ = some (.slice (some ⟨g, o, none⟩) l.length cap) := hP.cell 0
  have P1 : w4.cell? ⟨w.heap.size, 1, none⟩ = some (.int .i64 s) := hP.cell 1
  have P2 : w4.cell? ⟨w.heap.size, 2, none⟩ = some (.int .i64 e) := hP.cell 2
  have P3 : w4.cell? ⟨w.heap.size, 3, none⟩ = some (.string n) := hP.cell 3
  have fP0 := hP.frozen 0
  have fP1 := hP.frozen 1
  have fP2 := hP.frozen 2
  have fP3 := hP.frozen 3
  have R0 : w4.cell? ⟨w.heap.size + 1, 0, none⟩ = some (.slice none 0 0) := hR.cell 0
  have R1 : w4.cell? ⟨w.heap.size + 1, 1, none⟩ = some (.int .i64 0) := hR.cell 1
  have R2 : w4.cell? ⟨w.heap.size + 1, 2, none⟩ = some (.int .i64 0) := hR.cell 2
  have R3 : w4.cell? ⟨w.heap.size + 1, 3, none⟩ = some (.string ⟨#[]⟩) := hR.cell 3
  have fR0 := hR.frozen 0
  have fR1 := hR.frozen 1
  have fR2 := hR.frozen 2
  have fR3 := hR.frozen 3
  clear hown hg hnil hlow hpl HO hP hR hi hz0 hz1 hz2
  go_wp2
  refine bodyPost_ret (v := .agg #[.slice (some ⟨M, 0, none⟩) l.length c, .int .i64 s, .int .i64 e, .string n]) (by simp [results, Tryz.results37, go_sem, R0, R1, R2, R3]) rfl ?_
  obtain ⟨hM, cs, hk, hs, hh⟩ := HW.out
  exact ⟨⟨M, c, rfl, by omega, cs, blk4 (hk.set_other (by show w.heap.size ≠ M; omega) _) (by omega) _ _ _ _, hs, hh⟩, set4 (HB.out.setCell (Nat.le_refl _) _) (by omega) _ _ _ _⟩

set_option maxHeartbeats 800000 in
theorem copyI_any (a : Option Addr) (cap : Nat) (l : List Lab) (s e : Int) (n : ByteArray) (w : World) (hr : Reads w a l) (hl : l.length ≤ 1048576) :
    Calls Tryz.prog 102 #[.agg #[.slice a l.length cap, .int .i64 s, .int .i64 e, .string n]] w fun r w' => (∃ M c, r = .returned (.agg #[.slice (some ⟨M, 0, none⟩) l.length c, .int .i64 s, .int .i64 e, .string n]) ∧ Own w w' M l) ∧ Below w.heap.size w w' := by
  have HR : Hid (Reads w a l) := hr
  clear hr
  go_enter Tryz.func102, Tryz.ntmps102
  go_wp2_with fail
  refine (copied_any a cap l _ (w.heap.size + 2) (by simp) (HR.out.below (Go.Joins.below_alloc2 w _ _)) hl).mono ?_
  rintro r w4 ⟨rfl, hlow, hB⟩
  have HW : Hid (Blk w4 (w.heap.size + 2) (flat l).toArray 99) := hB
  have hP : Blk w4 w.heap.size #[.slice a l.length cap, .int .i64 s, .int .i64 e, .string n] 27 := ((Blk.new _ _ _).alloc _).below hlow (by omega)
  have hR : Blk w4 (w.heap.size + 1) #[.slice none 0 0, .int .i64 0, .int .i64 0, .string ⟨#[]⟩] 27 := (Blk.new_at (by simp)).below hlow (by omega)
  have HB : Hid (Below w.heap.size w w4) := (Go.Joins.below_alloc2 w _ _).trans (hlow.mono (by omega))
  have P0 : w4.cell? ⟨w.heap.size, 0, none⟩ = some (.slice a l.length cap) := hP.cell 0
  have P1 : w4.cell? ⟨w.heap.size, 1, none⟩ = some (.int .i64 s) := hP.cell 1
  have P2 : w4.cell? ⟨w.heap.size, 2, none⟩ = some (.int .i64 e) := hP.cell 2
  have P3 : w4.cell? ⟨w.heap.size, 3, none⟩ = some (.string n) := hP.cell 3
  have fP0 := hP.frozen 0
  have fP1 := hP.frozen 1
  have fP2 := hP.frozen 2
  have fP3 := hP.frozen 3
  have R0 : w4.cell? ⟨w.heap.size + 1, 0, none⟩ = some (.slice none 0 0) := hR.cell 0
  have R1 : w4.cell? ⟨w.heap.size + 1, 1, none⟩ = some (.int .i64 0) := hR.cell 1
  have R2 : w4.cell? ⟨w.heap.size + 1, 2, none⟩ = some (.int .i64 0) := hR.cell 2
  have R3 : w4.cell? ⟨w.heap.size + 1, 3, none⟩ = some (.string ⟨#[]⟩) := hR.cell 3
  have fR0 := hR.frozen 0
  have fR1 := hR.frozen 1
  have fR2 := hR.frozen 2
  have fR3 := hR.frozen 3
  clear hlow hB hP hR
  go_wp2
  refine bodyPost_ret (v := .agg #[.slice (some ⟨w.heap.size + 2, 0, none⟩) l.length l.length, .int .i64 s, .int .i64 e, .string n]) (by simp [results, Tryz.results102, go_sem, R0, R1, R2, R3]) rfl ?_
  exact ⟨⟨w.heap.size + 2, l.length, rfl, by omega, (flat l).toArray, blk4 (HW.out.set_other (by show w.heap.size ≠ w.heap.size + 2; omega) _) (by omega) _ _ _ _, by simp [flat_len], flat_heldL l⟩, set4 (HB.out.setCell (Nat.le_refl _) _) (by omega) _ _ _ _⟩

theorem retI {a b : Int} (h : a = b) : Ending.returned (.int .i64 a) = .returned (.int .i64 b) := by rw [h]
end Go.Proofs.YtgncimlojbnbfaaGreat.AlmM
