/-
  PROVED: what FindIn answers, case by case, of both sides; what an alarm that was found is; marks and their search in an alarm without labels.
-/
import Derived.Test.YtdbmpaocfmhlhaaPrtI
import Derived.Test.YtdbmpaocfmhlhaaPrtM
import Derived.Test.YtdbmpaocfmhlhaaAlmK
namespace Go.Proofs.Ytdbmpaocfmhlhaa.PrtJ
open Go.RowKit
open Go.Proofs.Ytdbmpaocfmhlhaa.Labs Go.Proofs.Ytdbmpaocfmhlhaa.LabS Go.Proofs.Ytdbmpaocfmhlhaa.Alms Go.Proofs.Ytdbmpaocfmhlhaa.AlmS Go.Proofs.Ytdbmpaocfmhlhaa.AlmM Go.Proofs.Ytdbmpaocfmhlhaa.Over Go.Proofs.Ytdbmpaocfmhlhaa.Blk Go.Proofs.Ytdbmpaocfmhlhaa.App Go.Proofs.Ytdbmpaocfmhlhaa.Rws Go.Proofs.Ytdbmpaocfmhlhaa.ChnC Go.Proofs.Ytdbmpaocfmhlhaa.ChnK Go.Proofs.Ytdbmpaocfmhlhaa.Chs Go.Proofs.Ytdbmpaocfmhlhaa.Prt Go.Proofs.Ytdbmpaocfmhlhaa.PrtO Go.Proofs.Ytdbmpaocfmhlhaa.PrtF
open Go.Proofs.Ytdbmpaocfmhlhaa.Fing (fingerB)
set_option linter.unusedVariables false
theorem find_in {C : List PCh} {l : List Lab} {x : PAl} (h : findB C l = some x) : ∃ c ∈ C, ∃ i, i < c.P.length ∧ x = nthP c.P i := by
  rcases at_cases C (fingerB l) with ⟨h0, _⟩ | ⟨k, h0, _, hk, _⟩
  · rw [find_1 h0] at h; cases h
  · rcases idx_cases (nthC C k).P l with ⟨_, h2⟩ | ⟨i, _, hi, h3, h4⟩
    · rw [find_2 h0 h2] at h; cases h
    · rw [find_3 h0 h4 h3 hi] at h
      exact ⟨_, nthC_mem hk, i, hi, (Option.some.inj h).symm⟩
theorem find_fit {C : List PCh} {l : List Lab} {x : PAl} (h : findB C l = some x) (hf : FitsC C) (hs : Small C) : FitA x ∧ x.l.length ≤ 1048576 := by
  obtain ⟨c, hc, i, hi, rfl⟩ := find_in h
  exact ⟨(hf c hc).fits i hi, (hs c hc).2 i hi⟩
theorem specFind_no (hd vr : Int) (a a' : Option Addr) (cap cap' : Nat) (C : List PCh) (l : List Lab) (w : World) (hr : RdG RdN w a C) (hr' : Reads w a' l) (hl : C.length ≤ 1048576) (hs : Small C) (hll : l.length ≤ maxLen) (hlf : LabT.Fits l) (hF : findB C l = none) :
    Calls Try.prog 16 #[.agg #[.int .i64 hd, .int .i64 vr, .slice a C.length cap], .slice a' l.length cap'] w fun e w' => e = .returned (.tuple #[.agg #[.slice none 0 0, .int .i64 0, .int .i64 0, .string ByteArray.empty], .bool false]) ∧ Below w.heap.size w w' :=
  (specFind_any hd vr a a' cap cap' C l w hr hr' hl hs hll hlf).mono fun e w' h => by
    rw [hF] at h
    exact h
theorem specFind_yes (hd vr : Int) (a a' : Option Addr) (cap cap' : Nat) (C : List PCh) (l : List Lab) (x : PAl) (w : World) (hr : RdG RdN w a C) (hr' : Reads w a' l) (hl : C.length ≤ 1048576) (hs : Small C) (hll : l.length ≤ maxLen) (hlf : LabT.Fits l) (hF : findB C l = some x) :
    Calls Try.prog 16 #[.agg #[.int .i64 hd, .int .i64 vr, .slice a C.length cap], .slice a' l.length cap'] w fun e w' => (∃ M c, e = .returned (.tuple #[.agg #[.slice (some ⟨M, 0, none⟩) x.l.length c, .int .i64 x.s, .int .i64 x.e, .string x.n], .bool true]) ∧ LabR.Own w w' M x.l) ∧ Below w.heap.size w w' :=
  (specFind_any hd vr a a' cap cap' C l w hr hr' hl hs hll hlf).mono fun e w' h => by
    rw [hF] at h
    exact h
theorem implFind_no (hd vr : Int) (a a' : Option Addr) (cap cap' : Nat) (C : List PCh) (l : List Lab) (w : World) (hr : RdG RdA w a C) (hr' : Reads w a' l) (hl : C.length ≤ 1048576) (hs : Small C) (hll : l.length ≤ maxLen) (hlf : LabT.Fits l) (hF : findB C l = none) :
    Calls Try.prog 18 #[.agg #[.int .i64 hd, .int .i64 vr, .slice a C.length cap], .slice a' l.length cap'] w fun e w' => e = .returned (.tuple #[.agg #[.slice none 0 0, .int .i64 0, .int .i64 0, .string ByteArray.empty], .bool false]) ∧ Below w.heap.size w w' :=
  (PrtI.implFind_any hd vr a a' cap cap' C l w hr hr' hl hs hll hlf).mono fun e w' h => by
    rw [hF] at h
    exact h
theorem implFind_yes (hd vr : Int) (a a' : Option Addr) (cap cap' : Nat) (C : List PCh) (l : List Lab) (x : PAl) (w : World) (hr : RdG RdA w a C) (hr' : Reads w a' l) (hl : C.length ≤ 1048576) (hs : Small C) (hll : l.length ≤ maxLen) (hlf : LabT.Fits l) (hF : findB C l = some x) :
    Calls Try.prog 18 #[.agg #[.int .i64 hd, .int .i64 vr, .slice a C.length cap], .slice a' l.length cap'] w fun e w' => (∃ M c, e = .returned (.tuple #[.agg #[.slice (some ⟨M, 0, none⟩) x.l.length c, .int .i64 x.s, .int .i64 x.e, .string x.n], .bool true]) ∧ LabR.Own w w' M x.l) ∧ Below w.heap.size w w' :=
  (PrtI.implFind_any hd vr a a' cap cap' C l w hr hr' hl hs hll hlf).mono fun e w' h => by
    rw [hF] at h
    exact h
theorem markNilS_any (k : Nat) (w : World) (hk2 : k ≤ 10000000) :
    Calls Try.prog 22 #[.slice none 0 0, .int .i64 k] w fun r w' => r = .returned (.int .i64 (k : Int)) ∧ Below w.heap.size w w' := by
  go_enter Try.func22, Try.ntmps22
  go_wp2
  go_loopw [1, 5] (fun x i w' => x = .int .i64 k ∧ i = .int .i64 0 ∧ Below w.heap.size w w') (fun _ i _ => 0)
  case atStart => exact ⟨rfl, rfl, Below.refl _ _⟩
  case round =>
    obtain ⟨rfl, rfl, hb⟩ := hrel
    have HB : Hid (Below w.heap.size w wr) := hb
    clear hb
    go_wp2
    go_ret
    exact ⟨rfl, HB.out⟩
theorem markNil_any (k : Nat) (s e : Int) (t : ByteArray) (w : World) (hk2 : k ≤ 10000000) :
    Calls Try.prog 23 #[.agg #[.slice none 0 0, .int .i64 s, .int .i64 e, .string t], .int .i64 k] w fun r w' => r = .returned (.int .i64 (k : Int)) ∧ Below w.heap.size w w' := by
  have hq : ¬ (k : Int) < 0 := by omega
  go_enter Try.func23, Try.ntmps23
  go_wp2_with fail
  refine (markNilS_any k _ hk2).mono ?_
  rintro r w1 ⟨rfl, hb⟩
  have HB : Hid (Below w.heap.size w w1) := grow_on (Go.Joins.below_alloc1 w _) hb
  clear hb
  go_wp2
  go_ret
  exact ⟨rfl, HB.out⟩
theorem heldNilS_any (k : Nat) (w : World) (hk2 : k ≤ 10000000) :
    Calls Try.prog 59 #[.slice none 0 0, .int .i64 k] w fun r w' => r = .returned (.int .i64 (k : Int)) ∧ Below w.heap.size w w' := by
  go_enter Try.func59, Try.ntmps59
  go_wp2
  go_loopw [1, 5] (fun x i w' => x = .int .i64 k ∧ i = .int .i64 0 ∧ Below w.heap.size w w') (fun _ i _ => 0)
  case atStart => exact ⟨rfl, rfl, Below.refl _ _⟩
  case round =>
    obtain ⟨rfl, rfl, hb⟩ := hrel
    have HB : Hid (Below w.heap.size w wr) := hb
    clear hb
    go_wp2
    go_ret
    exact ⟨rfl, HB.out⟩
theorem heldNil_any (k : Nat) (s e : Int) (t : ByteArray) (w : World) (hk2 : k ≤ 10000000) :
    Calls Try.prog 24 #[.agg #[.slice none 0 0, .int .i64 s, .int .i64 e, .string t], .int .i64 k] w fun r w' => r = .returned (.int .i64 (k : Int)) ∧ Below w.heap.size w w' := by
  have hq : ¬ (k : Int) < 0 := by omega
  go_enter Try.func24, Try.ntmps24
  go_wp2_with fail
  refine (heldNilS_any k _ hk2).mono ?_
  rintro r w1 ⟨rfl, hb⟩
  have HB : Hid (Below w.heap.size w w1) := grow_on (Go.Joins.below_alloc1 w _) hb
  clear hb
  go_wp2
  go_ret
  exact ⟨rfl, HB.out⟩
end Go.Proofs.Ytdbmpaocfmhlhaa.PrtJ
