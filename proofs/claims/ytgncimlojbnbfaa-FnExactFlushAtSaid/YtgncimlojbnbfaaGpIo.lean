/-
  PROVED: impl.GroupOf answers the place of the first group of a key; nothing that was there is changed.
-/
import Derived.Test.YtgncimlojbnbfaaGpIx
import Derived.Test.YtgncimlojbnbfaaGpOf
namespace Go.Proofs.Ytgncimlojbnbfaa.GpIo
open Go.RowKit
open Go.Proofs.Ytgncimlojbnbfaa.Labs Go.Proofs.Ytgncimlojbnbfaa.LabS Go.Proofs.Ytgncimlojbnbfaa.Alms Go.Proofs.Ytgncimlojbnbfaa.Over Go.Proofs.Ytgncimlojbnbfaa.Blk Go.Proofs.Ytgncimlojbnbfaa.App Go.Proofs.Ytgncimlojbnbfaa.Gps Go.Proofs.Ytgncimlojbnbfaa.GpD
set_option linter.unusedVariables false
theorem implOf_any (a ka : Option Addr) (cap kc : Nat) (U : List PGr) (key : List Lab) (w : World) (hr : RdGs GA w a U) (hk : Reads w ka key) (hl : U.length ≤ 1048576) (hkl : key.length ≤ maxLen) (hz : ∀ x ∈ U, x.key.length ≤ maxLen) :
    Calls Try.prog 19 #[.slice a U.length cap, .slice ka key.length kc] w fun e w' => e = .returned (.int .i64 (ofI (keyIs key) U)) ∧ Below w.heap.size w w' := by
  have HC : ∀ T, Hid (Calls Try.prog 45 #[.slice a U.length cap, .func (.func 46) #[] #[.pointer (some ⟨w.heap.size, 0, none⟩)]] (w.alloc (.cells #[.slice ka key.length kc] T)) fun e w' => e = .returned (.int .i64 (ofI (keyIs key) U)) ∧ Below (w.alloc (.cells #[.slice ka key.length kc] T)).heap.size (w.alloc (.cells #[.slice ka key.length kc] T)) w') := fun T =>
    GpIx.indexK_any w.heap.size a cap U _ (hr.below stays_ga (Go.Joins.below_alloc1 w _)) hl ka kc key (by simp) (hk.below (Go.Joins.below_alloc1 w _)) hkl hz
  clear hr hk hz
  go_enter Try.func19, Try.ntmps19
  go_wp2_with fail
  refine (HC _).out.mono ?_
  rintro e w1 ⟨rfl, hb1⟩
  have HB : Hid (Below w.heap.size w w1) := grow_on (Go.Joins.below_alloc1 w _) hb1
  clear hb1 HC
  go_wp2
  go_ret
  exact ⟨rfl, HB.out⟩
end Go.Proofs.Ytgncimlojbnbfaa.GpIo
