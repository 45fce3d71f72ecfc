/-
  PROVED: impl.GroupAt answers the place of the first group of a number; nothing that was there is changed.
-/
import Derived.Test.YtgncimlojbnbfaaGpIx
import Derived.Test.YtgncimlojbnbfaaGpAt
namespace Go.Proofs.Ytgncimlojbnbfaa.GpIt
open Go.RowKit
open Go.Proofs.Ytgncimlojbnbfaa.Labs Go.Proofs.Ytgncimlojbnbfaa.LabS Go.Proofs.Ytgncimlojbnbfaa.Alms Go.Proofs.Ytgncimlojbnbfaa.Over Go.Proofs.Ytgncimlojbnbfaa.Blk Go.Proofs.Ytgncimlojbnbfaa.App Go.Proofs.Ytgncimlojbnbfaa.Gps Go.Proofs.Ytgncimlojbnbfaa.GpD
set_option linter.unusedVariables false
theorem implAt_any (a : Option Addr) (cap : Nat) (U : List PGr) (n : Int) (w : World) (hr : RdGs GA w a U) (hl : U.length ≤ 1048576) :
    Calls Try.prog 22 #[.slice a U.length cap, .int .i64 n] w fun e w' => e = .returned (.int .i64 (ofI (numIs n) U)) ∧ Below w.heap.size w w' := by
  have HC : ∀ T, Hid (Calls Try.prog 45 #[.slice a U.length cap, .func (.func 49) #[] #[.pointer (some ⟨w.heap.size, 0, none⟩)]] (w.alloc (.cells #[.int .i64 n] T)) fun e w' => e = .returned (.int .i64 (ofI (numIs n) U)) ∧ Below (w.alloc (.cells #[.int .i64 n] T)).heap.size (w.alloc (.cells #[.int .i64 n] T)) w') := fun T =>
    GpIx.indexN_any w.heap.size a cap U _ (hr.below stays_ga (Go.Joins.below_alloc1 w _)) hl n (by simp)
  clear hr
  go_enter Try.func22, Try.ntmps22
  go_wp2_with fail
  refine (HC _).out.mono ?_
  rintro e w1 ⟨rfl, hb1⟩
  have HB : Hid (Below w.heap.size w w1) := grow_on (Go.Joins.below_alloc1 w _) hb1
  clear hb1 HC
  go_wp2
  go_ret
  exact ⟨rfl, HB.out⟩
end Go.Proofs.Ytgncimlojbnbfaa.GpIt
