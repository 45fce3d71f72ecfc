/-
  PROVED: over two chains in memory spec.SameChain and impl.SameChain answer alike, as a plain function on lists says; spec.l4All and spec.l6Copy give the same alarms in memory of their own; nothing that was there is changed.
-/
import Derived.Test.YtcopckbpflmmeaaChnS
import Derived.Test.YtcopckbpflmmeaaLsA
import Derived.Test.YtcopckbpflmmeaaLsS
import Derived.Test.YtcopckbpflmmeaaChnD
namespace Go.Proofs.Ytcopckbpflmmeaa.ChnT
open Go.RowKit
open Go.Proofs.Ytcopckbpflmmeaa.Labs Go.Proofs.Ytcopckbpflmmeaa.LabS Go.Proofs.Ytcopckbpflmmeaa.Alms Go.Proofs.Ytcopckbpflmmeaa.AlmS Go.Proofs.Ytcopckbpflmmeaa.AlmM Go.Proofs.Ytcopckbpflmmeaa.Over Go.Proofs.Ytcopckbpflmmeaa.Blk Go.Proofs.Ytcopckbpflmmeaa.App Go.Proofs.Ytcopckbpflmmeaa.Rws Go.Proofs.Ytcopckbpflmmeaa.ChnI Go.Proofs.Ytcopckbpflmmeaa.ChnC Go.Proofs.Ytcopckbpflmmeaa.ChnP Go.Proofs.Ytcopckbpflmmeaa.ChnD Go.Proofs.Ytcopckbpflmmeaa.ChnS
open Go.Proofs.Ytcopckbpflmmeaa.StrB (retB)
open Go.Proofs.Ytcopckbpflmmeaa.Alm (at_par)
set_option linter.unusedVariables false

/-- whether two chains are the same -/
def sameCB (f : Int) (P : List PAl) (f' : Int) (Q : List PAl) : Bool := decide (f = f') && sameLB P Q
theorem sameC_y {f f' : Int} {P Q : List PAl} (h : f = f') : sameCB f P f' Q = sameLB P Q := by simp [sameCB, h]
theorem sameC_n {f f' : Int} {P Q : List PAl} (h : f ≠ f') : sameCB f P f' Q = false := by simp [sameCB, h]
set_option maxHeartbeats 800000 in
theorem specSameC_any (f f' : Int) (a a' : Option Addr) (cap cap' : Nat) (P Q : List PAl) (w : World) (hr : RdA w a P) (hr' : RdA w a' Q) (hl : P.length ≤ 1048576) (hl' : Q.length ≤ 1048576) (hs : LenP P) (hs' : LenP Q) :
    Calls Try.prog 19 #[.agg #[.int .i64 f, .slice a P.length cap], .agg #[.int .i64 f', .slice a' Q.length cap']] w fun e w' => e = .returned (.bool (sameCB f P f' Q)) ∧ Below w.heap.size w w' := by
  have HR : Hid (RdA w a P ∧ RdA w a' Q ∧ LenP P ∧ LenP Q) := ⟨hr, hr', hs, hs'⟩
  clear hr hr' hs hs'
  by_cases hf : f = f'
  · have HE : Hid (sameCB f P f' Q = sameLB P Q) := sameC_y hf
    subst hf
    go_enter Try.func19, Try.ntmps19
    go_wp2_with fail
    refine (l4Same_any a a' cap cap' P Q _ (HR.out.1.below (Go.Joins.below_alloc2 w _ _)) (HR.out.2.1.below (Go.Joins.below_alloc2 w _ _)) hl hl' HR.out.2.2.1 HR.out.2.2.2).mono ?_
    rintro e w2 ⟨rfl, hb⟩
    have HB : Hid (Below w.heap.size w w2) := grow_on (Go.Joins.below_alloc2 w _ _) hb
    clear hb
    go_wp2
    go_ret
    exact ⟨retB HE.out.symm, HB.out⟩
  · have HE : Hid (sameCB f P f' Q = false) := sameC_n hf
    go_enter Try.func19, Try.ntmps19
    go_wp2
    go_ret
    exact ⟨retB HE.out.symm, Go.Joins.below_alloc2 w _ _⟩
set_option maxHeartbeats 800000 in
theorem implSameC_any (f f' : Int) (a a' : Option Addr) (cap cap' : Nat) (P Q : List PAl) (w : World) (hr : RdA w a P) (hr' : RdA w a' Q) (hl : P.length ≤ 1048576) (hl' : Q.length ≤ 1048576) (hs : LenP P) (hs' : LenP Q) :
    Calls Try.prog 16 #[.agg #[.int .i64 f, .slice a P.length cap], .agg #[.int .i64 f', .slice a' Q.length cap']] w fun e w' => e = .returned (.bool (sameCB f P f' Q)) ∧ Below w.heap.size w w' := by
  have HR : Hid (RdA w a P ∧ RdA w a' Q ∧ LenP P ∧ LenP Q) := ⟨hr, hr', hs, hs'⟩
  clear hr hr' hs hs'
  by_cases hf : f = f'
  · have HE : Hid (sameCB f P f' Q = sameLB P Q) := sameC_y hf
    subst hf
    go_enter Try.func16, Try.ntmps16
    go_wp2_with fail
    refine (equalF_any a a' cap cap' P Q _ (HR.out.1.below (Go.Joins.below_alloc2 w _ _)) (HR.out.2.1.below (Go.Joins.below_alloc2 w _ _)) hl hl' HR.out.2.2.1 HR.out.2.2.2).mono ?_
    rintro e w2 ⟨rfl, hb⟩
    have HB : Hid (Below w.heap.size w w2) := grow_on (Go.Joins.below_alloc2 w _ _) hb
    clear hb
    go_wp2
    go_ret
    exact ⟨retB HE.out.symm, HB.out⟩
  · have HE : Hid (sameCB f P f' Q = false) := sameC_n hf
    go_enter Try.func16, Try.ntmps16
    go_wp2
    go_ret
    exact ⟨retB HE.out.symm, Go.Joins.below_alloc2 w _ _⟩

end Go.Proofs.Ytcopckbpflmmeaa.ChnT
