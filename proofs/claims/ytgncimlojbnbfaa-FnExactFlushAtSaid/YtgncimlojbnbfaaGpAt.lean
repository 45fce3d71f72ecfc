/-
  PROVED: spec.GroupAt answers the place of the first group of a number; nothing that was there is changed.
-/
import Derived.Test.YtgncimlojbnbfaaGpD
namespace Go.Proofs.Ytgncimlojbnbfaa.GpAt
open Go.RowKit
open Go.Proofs.Ytgncimlojbnbfaa.Labs Go.Proofs.Ytgncimlojbnbfaa.LabS Go.Proofs.Ytgncimlojbnbfaa.Alms Go.Proofs.Ytgncimlojbnbfaa.Over Go.Proofs.Ytgncimlojbnbfaa.Blk Go.Proofs.Ytgncimlojbnbfaa.App Go.Proofs.Ytgncimlojbnbfaa.Gps Go.Proofs.Ytgncimlojbnbfaa.GpD
set_option linter.unusedVariables false
set_option maxHeartbeats 1600000 in
theorem specAt_any (a : Option Addr) (cap : Nat) (U : List PGr) (n : Int) (w : World) (hr : RdGs GA w a U) (hl : U.length ≤ 1048576) :
    Calls Try.prog 21 #[.slice a U.length cap, .int .i64 n] w fun e w' => e = .returned (.int .i64 (ofI (numIs n) U)) ∧ Below w.heap.size w w' := by
  have HR : Hid (RdGs GA w a U) := hr
  clear hr
  go_enter Try.func21, Try.ntmps21
  go_wp2
  go_loopw [5] (fun i w' => ∃ k : Nat, i = .int .i64 k ∧ k ≤ U.length ∧ (∀ j, j < k → numIs n (nthG U j) = false) ∧ Below w.heap.size w w') (fun i _ => U.length - (intOf i).toNat)
  case atStart => exact ⟨0, rfl, Nat.zero_le _, fun j h => by omega, Below.refl _ _⟩
  case round =>
    obtain ⟨k, rfl, hk, hu, hw0⟩ := hrel
    have HU : Hid (∀ j, j < k → numIs n (nthG U j) = false) := hu
    have HB : Hid (Below w.heap.size w wr) := hw0
    clear hu hw0
    by_cases hlt : k < U.length
    · have hlt' : (k : Int) < (U.length : Int) := by omega
      obtain ⟨b, off, rfl, hb, kb, kd, ad, cp, hat⟩ := (HR.out.below stays_ga HB.out).get hlt
      have x0 := hat.c0
      clear hat
      by_cases he : (nthG U k).n = n
      · have HE : Hid (ofI (numIs n) U = (k : Int)) := ofI_at hlt HU.out (decide_eq_true he)
        have he' : ((nthG U k).n == n) = true := by simpa using he
        clear he
        go_wp2
        go_ret
        exact ⟨retN HE.out.symm, HB.out⟩
      · have HU1 : Hid (∀ j, j < k + 1 → numIs n (nthG U j) = false) := fun j hj => by
          by_cases e : j = k
          · subst e; exact decide_eq_false he
          · exact HU.out j (by omega)
        have he' : ((nthG U k).n == n) = false := by simpa using he
        clear he
        go_wp2
        go_roundw
        case rel => exact ⟨k + 1, by go_num, by omega, HU1.out, HB.out⟩
        case measure => simp [intOf]; omega
    · have hge : ¬ (k : Int) < (U.length : Int) := by omega
      have HE : Hid (ofI (numIs n) U = -1) := ofI_end fun j hj => HU.out j (by omega)
      go_wp2
      go_ret
      exact ⟨retN HE.out.symm, HB.out⟩
end Go.Proofs.Ytgncimlojbnbfaa.GpAt
