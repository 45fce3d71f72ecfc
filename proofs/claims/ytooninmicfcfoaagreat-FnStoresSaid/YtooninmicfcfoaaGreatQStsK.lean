/-
  PROVED: over a slice of parts in memory spec.CountOf and impl.CountOf answer alike: how many alarms the parts have, together; nothing that was there is changed.
-/
import Derived.Test.YtooninmicfcfoaaGreatQSts
set_option linter.unusedVariables false
namespace Go.Proofs.YtooninmicfcfoaaGreat.StsK
open Go.RowKit
open Labs LabS Alms Rws Over Blk Chs Prt Sts

def cntC : List PCh → Nat
  | [] => 0
  | x :: C => x.P.length + cntC C
theorem cntC_app (p q : List PCh) : cntC (p ++ q) = cntC p + cntC q := by
  induction p with
  | nil => simp [cntC]
  | cons x p ih => rw [List.cons_append, cntC, ih, cntC]; omega
theorem cntC_up {C : List PCh} {k : Nat} (h : k < C.length) : cntC (C.take (k + 1)) = cntC (C.take k) + (nthC C k).P.length := by rw [takeC_up h, cntC_app]; simp [cntC]
theorem cntC_sum (C : List PCh) : cntC C ≤ sumC C := by
  induction C with
  | nil => simp [cntC]
  | cons x C ih => rw [cntC, sumC]; omega
theorem cntC_le (C : List PCh) (k : Nat) : cntC (C.take k) ≤ sumC C := Nat.le_trans (cntC_sum _) (sumC_le C k)
def cntT : List PPt → Nat
  | [] => 0
  | x :: S => cntC x.C + cntT S
theorem cntT_app (p q : List PPt) : cntT (p ++ q) = cntT p + cntT q := by
  induction p with
  | nil => simp [cntT]
  | cons x p ih => rw [List.cons_append, cntT, ih, cntT]; omega
theorem cntT_up {S : List PPt} {k : Nat} (h : k < S.length) : cntT (S.take (k + 1)) = cntT (S.take k) + cntC (nthT S k).C := by rw [takeT_up h, cntT_app]; simp [cntT]
theorem cntT_sum (S : List PPt) : cntT S ≤ sumT S := by
  induction S with
  | nil => simp [cntT]
  | cons x S ih => have := cntC_sum x.C; rw [cntT, sumT]; omega
theorem cntT_le (S : List PPt) (k : Nat) : cntT (S.take k) ≤ sumT S := Nat.le_trans (cntT_sum _) (sumT_le S k)
theorem retI {a b : Int} (h : a = b) : Ending.returned (.int .i64 a) = .returned (.int .i64 b) := by rw [h]

set_option maxHeartbeats 1600000 in
theorem implCount_any (a : Option Addr) (cap : Nat) (S : List PPt) (w : World) (hr : RdS RdA w a S) (hl : S.length ≤ 1048576) (hs : sumT S ≤ 1048576) :
    Calls Tryz.prog 35 #[.slice a S.length cap] w fun e w' => e = .returned (.int .i64 (cntT S)) ∧ Below w.heap.size w w' := by
  have HR : Hid (RdS RdA w a S ∧ sumT S ≤ 1048576) := ⟨hr, hs⟩
  clear hr hs
  go_enter Tryz.func35, Tryz.ntmps35
  go_wp2
  go_loopw [3, 10] (fun n i w' => ∃ k : Nat, k ≤ S.length ∧ i = .int .i64 k ∧ n = .int .i64 (cntT (S.take k)) ∧ Below w.heap.size w w') (fun _ i _ => S.length - (intOf i).toNat)
  case atStart => exact ⟨0, Nat.zero_le _, rfl, rfl, Below.refl _ _⟩
  case round =>
    obtain ⟨k, hk, rfl, rfl, hw0⟩ := hrel
    have HB0 : Hid (Below w.heap.size w wr) := hw0
    clear hw0
    by_cases hlt : k < S.length
    · have hlt' : (k : Int) < (S.length : Int) := by omega
      obtain ⟨b, off, rfl, hb, ad, cp, hat⟩ := (HR.out.1.below stays_rd HB0.out).get hlt
      have h2 := hat.c0
      have h3 := hat.c1
      have h4 := hat.c2
      have HA : Hid (RdG RdA wr ad (nthT S k).C) := hat.reads
      have HU : Hid (cntT (S.take (k + 1)) = cntT (S.take k) + cntC (nthT S k).C) := cntT_up hlt
      have HB : Hid (cntT (S.take (k + 1)) ≤ 1048576 ∧ sumC (nthT S k).C ≤ 1048576 ∧ (nthT S k).C.length ≤ 1048576) := by have h1 := cntT_le S (k + 1); have h2 := HR.out.2; have h3 := sumT_nth hlt; exact ⟨by omega, by omega, by omega⟩
      clear hat
      generalize hC : (nthT S k).C = C at *
      generalize hN : cntT (S.take k) = N at *
      have hN1 : N ≤ 1048576 := by have := HU.out; have := HB.out; omega
      have hCl : C.length ≤ 1048576 := HB.out.2.2
      clear hC
      obtain ⟨wp, hwp⟩ : ∃ x, x = wr := ⟨_, rfl⟩
      subst hwp
      go_wp2
      go_loopw [3, 17] (fun n i w' => ∃ j : Nat, j ≤ C.length ∧ i = .int .i64 j ∧ n = .int .i64 ((N + cntC (C.take j) : Nat) : Int) ∧ Below wp.heap.size wp w') (fun _ i _ => C.length - (intOf i).toNat)
      case atStart => exact ⟨0, Nat.zero_le _, rfl, rfl, Go.Joins.below_alloc1 wp _⟩
      case round =>
        obtain ⟨j, hj, rfl, rfl, hw1⟩ := hrel
        have HB1 : Hid (Below wp.heap.size wp wr) := hw1
        clear hw1
        by_cases hlt2 : j < C.length
        · have hlt2' : (j : Int) < (C.length : Int) := by omega
          obtain ⟨b2, off2, rfl, hb2, ad2, cp2, hat2⟩ := (HA.out.below stays_rd HB1.out).get hlt2
          have h5 := hat2.c0
          have h6 := hat2.c1
          have HV : Hid (N + cntC (C.take (j + 1)) = N + cntC (C.take j) + (nthC C j).P.length ∧ N + cntC (C.take (j + 1)) ≤ 2097152) := by
            have h1 := cntC_up hlt2
            have h2 := cntC_le C (j + 1)
            have h3 := HB.out.2.1
            exact ⟨by omega, by omega⟩
          clear hat2
          generalize hM : N + cntC (C.take j) = M at *
          generalize hP : (nthC C j).P.length = P at *
          have hMP : M + P ≤ 2097152 := by have := HV.out; omega
          have HV2 : Hid (N + cntC (C.take (j + 1)) = M + P) := HV.out.1
          clear hM hP HV
          go_wp2
          go_roundw
          case rel => exact ⟨j + 1, by omega, by go_num, by rw [HV2.out]; go_num, grow_on HB1.out (Go.Joins.below_alloc1 wr _)⟩
          case measure => simp [intOf]; omega
        · have hge2 : ¬ (j : Int) < (C.length : Int) := by omega
          have HE : Hid (N + cntC (C.take j) = cntT (S.take (k + 1))) := by show _ = _; rw [List.take_of_length_le (by omega)]; exact HU.out.symm
          rw [HE.out]
          go_wp2
          go_roundw
          case rel => exact ⟨k + 1, by omega, by go_num, rfl, grow_on HB0.out HB1.out⟩
          case measure => simp [intOf]; omega
    · have hge : ¬ (k : Int) < (S.length : Int) := by omega
      have HE : Hid (cntT (S.take k) = cntT S) := by show _ = _; rw [List.take_of_length_le (by omega)]
      go_wp2
      go_ret
      exact ⟨retI (by rw [HE.out]), HB0.out⟩
end Go.Proofs.YtooninmicfcfoaaGreat.StsK
