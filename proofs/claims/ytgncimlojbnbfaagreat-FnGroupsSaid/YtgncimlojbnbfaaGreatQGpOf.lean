/-
  PROVED: spec.GroupOf answers the place of the first group of a key; nothing that was there is changed.
-/
import Derived.Test.YtgncimlojbnbfaaGreatQGpD
set_option linter.unusedVariables false
namespace Go.Proofs.YtgncimlojbnbfaaGreat.GpOf
open Go.RowKit
open Labs LabS Alms Over Blk App Gps GpD
set_option maxHeartbeats 1600000 in
theorem specOf_any (a ka : Option Addr) (cap kc : Nat) (U : List PGr) (key : List Lab) (w : World) (hr : RdGs GA w a U) (hk : Reads w ka key) (hl : U.length ≤ 1048576) (hkl : key.length ≤ maxLen) (hz : ∀ x ∈ U, x.key.length ≤ maxLen) :
    Calls Tryz.prog 20 #[.slice a U.length cap, .slice ka key.length kc] w fun e w' => e = .returned (.int .i64 (ofI (keyIs key) U)) ∧ Below w.heap.size w w' := by
  have HR : Hid (RdGs GA w a U ∧ Reads w ka key ∧ key.length ≤ maxLen ∧ ∀ x ∈ U, x.key.length ≤ maxLen) := ⟨hr, hk, hkl, hz⟩
  clear hr hk hkl hz
  go_enter Tryz.func20, Tryz.ntmps20
  go_wp2
  go_loopw [5] (fun i w' => ∃ k : Nat, i = .int .i64 k ∧ k ≤ U.length ∧ (∀ j, j < k → keyIs key (nthG U j) = false) ∧ Below w.heap.size w w') (fun i _ => U.length - (intOf i).toNat)
  case atStart => exact ⟨0, rfl, Nat.zero_le _, fun j h => by omega, Below.refl _ _⟩
  case round =>
    obtain ⟨k, rfl, hk, hu, hw0⟩ := hrel
    have HU : Hid (∀ j, j < k → keyIs key (nthG U j) = false) := hu
    have HB : Hid (Below w.heap.size w wr) := hw0
    clear hu hw0
    by_cases hlt : k < U.length
    · have hlt' : (k : Int) < (U.length : Int) := by omega
      obtain ⟨b, off, rfl, hb, kb, kd, ad, cp, hat⟩ := (HR.out.1.below stays_ga HB.out).get hlt
      have x1 := hat.c1
      have HC : Hid (Calls Tryz.prog 49 #[.slice kb (nthG U k).key.length kd, .slice ka key.length kc] wr fun e w' => e = .returned (.bool (keyIs key (nthG U k))) ∧ Below wr.heap.size wr w') := calls_drew (specSame_any kb ka kd kc (nthG U k).key key wr hat.reads.1 (HR.out.2.1.below HB.out) (HR.out.2.2.2 _ (nthG_mem hlt)) HR.out.2.2.1)
      clear hat
      cases he : keyIs key (nthG U k) with
      | true =>
        rw [he] at HC
        have HE : Hid (ofI (keyIs key) U = (k : Int)) := ofI_at hlt HU.out he
        clear he
        go_wp2_with fail
        refine HC.out.mono ?_
        rintro e w1 ⟨rfl, hb1⟩
        have HB1 : Hid (Below w.heap.size w w1) := grow_on HB.out hb1
        clear hb1 x1 HC
        go_wp2
        go_ret
        exact ⟨retN HE.out.symm, HB1.out⟩
      | false =>
        rw [he] at HC
        have HU1 : Hid (∀ j, j < k + 1 → keyIs key (nthG U j) = false) := fun j hj => by
          by_cases e : j = k
          · subst e; exact he
          · exact HU.out j (by omega)
        clear he
        go_wp2_with fail
        refine HC.out.mono ?_
        rintro e w1 ⟨rfl, hb1⟩
        have HB1 : Hid (Below w.heap.size w w1) := grow_on HB.out hb1
        clear hb1 x1 HC
        go_wp2
        go_roundw
        case rel => exact ⟨k + 1, by go_num, by omega, HU1.out, HB1.out⟩
        case measure => simp [intOf]; omega
    · have hge : ¬ (k : Int) < (U.length : Int) := by omega
      have HE : Hid (ofI (keyIs key) U = -1) := ofI_end fun j hj => HU.out j (by omega)
      go_wp2
      go_ret
      exact ⟨retN HE.out.symm, HB.out⟩
end Go.Proofs.YtgncimlojbnbfaaGreat.GpOf
