/-
  PROVED: slices.IndexFunc over groups with the questions that impl.GroupOf and impl.GroupAt ask: the place of the first that is so; nothing that was there is changed.
-/
import Derived.Test.YtgncimlojbnbfaaGpD
namespace Go.Proofs.Ytgncimlojbnbfaa.GpIx
open Go.RowKit
open Go.Proofs.Ytgncimlojbnbfaa.Labs Go.Proofs.Ytgncimlojbnbfaa.LabS Go.Proofs.Ytgncimlojbnbfaa.Alms Go.Proofs.Ytgncimlojbnbfaa.Over Go.Proofs.Ytgncimlojbnbfaa.Blk Go.Proofs.Ytgncimlojbnbfaa.App Go.Proofs.Ytgncimlojbnbfaa.Gps Go.Proofs.Ytgncimlojbnbfaa.GpD
set_option linter.unusedVariables false
theorem closK_any (b0 : Nat) (kx ad ka : Option Addr) (kd cp kc : Nat) (x : PGr) (key : List Lab) (w : World) (hc : w.cell? ⟨b0, 0, none⟩ = some (.slice ka key.length kc)) (hx : Reads w kx x.key) (hr : Reads w ka key) (h1 : x.key.length ≤ maxLen) (h2 : key.length ≤ maxLen) :
    Calls Try.prog 46 #[.agg #[.int .i64 x.n, .slice kx x.key.length kd, .int .i64 x.b, .int .i64 x.t, .slice ad x.P.length cp], .pointer (some ⟨b0, 0, none⟩)] w fun e w' => e = .returned (.bool (keyIs key x)) ∧ Below w.heap.size w w' := by
  have hb0 : b0 < w.heap.size := World.block_lt_of_cell? w _ hc
  have hc1 : ∀ o, (w.alloc o).cell? ⟨b0, 0, none⟩ = some (.slice ka key.length kc) := fun o => by
    rw [World.cell?_alloc_lt _ _ _ hb0]; exact hc
  have HR : Hid (Reads w kx x.key ∧ Reads w ka key ∧ x.key.length ≤ maxLen ∧ key.length ≤ maxLen) := ⟨hx, hr, h1, h2⟩
  clear hc hx hr h1 h2
  go_enter Try.func46, Try.ntmps46
  go_wp2_with fail
  refine (calls_drew (implSame_any _ _ _ _ _ _ _ (HR.out.1.below (Go.Joins.below_alloc1 w _)) (HR.out.2.1.below (Go.Joins.below_alloc1 w _)) HR.out.2.2.1 HR.out.2.2.2)).mono ?_
  rintro e w1 ⟨rfl, hb1⟩
  have HB1 : Hid (Below w.heap.size w w1) := grow_on (Go.Joins.below_alloc1 w _) hb1
  clear hb1
  go_wp2
  go_ret
  exact ⟨rfl, HB1.out⟩
theorem closN_any (b0 : Nat) (kx ad : Option Addr) (kd cp : Nat) (x : PGr) (n : Int) (w : World) (hc : w.cell? ⟨b0, 0, none⟩ = some (.int .i64 n)) :
    Calls Try.prog 49 #[.agg #[.int .i64 x.n, .slice kx x.key.length kd, .int .i64 x.b, .int .i64 x.t, .slice ad x.P.length cp], .pointer (some ⟨b0, 0, none⟩)] w fun e w' => e = .returned (.bool (numIs n x)) ∧ Below w.heap.size w w' := by
  have hb0 : b0 < w.heap.size := World.block_lt_of_cell? w _ hc
  have hc1 : ∀ o, (w.alloc o).cell? ⟨b0, 0, none⟩ = some (.int .i64 n) := fun o => by
    rw [World.cell?_alloc_lt _ _ _ hb0]; exact hc
  clear hc
  go_enter Try.func49, Try.ntmps49
  go_wp2
  go_ret
  exact ⟨by unfold numIs; congr 2, Go.Joins.below_alloc1 w _⟩
set_option maxHeartbeats 1600000 in
theorem indexK_any (b0 : Nat) (a : Option Addr) (cap : Nat) (U : List PGr) (w : World) (hr : RdGs GA w a U) (hl : U.length ≤ 1048576) (ka : Option Addr) (kc : Nat) (key : List Lab) (hc : w.cell? ⟨b0, 0, none⟩ = some (.slice ka key.length kc)) (hkr : Reads w ka key) (hkl : key.length ≤ maxLen) (hz : ∀ x ∈ U, x.key.length ≤ maxLen) :
    Calls Try.prog 45 #[.slice a U.length cap, .func (.func 46) #[] #[.pointer (some ⟨b0, 0, none⟩)]] w fun e w' => e = .returned (.int .i64 (ofI (keyIs key) U)) ∧ Below w.heap.size w w' := by
  have hb0 : b0 < w.heap.size := World.block_lt_of_cell? w _ hc
  have HR : Hid (RdGs GA w a U) := hr
  have HK : Hid (w.cell? ⟨b0, 0, none⟩ = some (.slice ka key.length kc) ∧ Reads w ka key ∧ key.length ≤ maxLen ∧ ∀ x ∈ U, x.key.length ≤ maxLen) := ⟨hc, hkr, hkl, hz⟩; clear hr hc hkr hkl hz
  go_enter Try.func45, Try.ntmps45
  go_wp2
  go_loopw [8] (fun i w' => ∃ k : Nat, i = .int .i64 k ∧ k ≤ U.length ∧ (∀ j, j < k → keyIs key (nthG U j) = false) ∧ Below w.heap.size w w') (fun i _ => U.length - (intOf i).toNat)
  case atStart => exact ⟨0, rfl, Nat.zero_le _, fun j h => by omega, Below.refl _ _⟩
  case round =>
    obtain ⟨k, rfl, hk, hu, hw⟩ := hrel
    have HU : Hid (∀ j, j < k → keyIs key (nthG U j) = false) := hu
    have HB : Hid (Below w.heap.size w wr) := hw
    clear hu hw
    by_cases hlt : k < U.length
    · have hlt' : (k : Int) < (U.length : Int) := by omega
      obtain ⟨b, off, rfl, hb, kx, kd, ad, cp, hat⟩ := (HR.out.below stays_ga HB.out).get hlt
      have x0 := hat.c0
      have x1 := hat.c1
      have x2 := hat.c2
      have x3 := hat.c3
      have x4 := hat.c4
      have HC1 : Hid (Calls Try.prog 46 #[.agg #[.int .i64 (nthG U k).n, .slice kx (nthG U k).key.length kd, .int .i64 (nthG U k).b, .int .i64 (nthG U k).t, .slice ad (nthG U k).P.length cp], .pointer (some ⟨b0, 0, none⟩)] wr fun e w' => e = .returned (.bool (keyIs key (nthG U k))) ∧ Below wr.heap.size wr w') := closK_any b0 kx ad ka kd cp kc (nthG U k) key wr ((HB.out.cell (p := ⟨b0, 0, none⟩) hb0).trans HK.out.1) hat.reads.1 (HK.out.2.1.below HB.out) (HK.out.2.2.2 _ (nthG_mem hlt)) HK.out.2.2.1
      clear hat
      cases he : keyIs key (nthG U k) with
      | true =>
        rw [he] at HC1
        have HE : Hid (ofI (keyIs key) U = k) := ofI_at hlt HU.out he
        clear he
        go_wp2_with fail
        refine HC1.out.mono ?_
        rintro e w1 ⟨rfl, hb1⟩
        have HB1 : Hid (Below w.heap.size w w1) := grow_on HB.out hb1
        clear hb1 x0 x1 x2 x3 x4 HC1
        go_wp2
        go_ret
        exact ⟨retN HE.out.symm, HB1.out⟩
      | false =>
        rw [he] at HC1
        have HU1 : Hid (∀ j, j < k + 1 → keyIs key (nthG U j) = false) := fun j hj => by
          by_cases e : j = k
          · subst e; exact he
          · exact HU.out j (by omega)
        clear he
        go_wp2_with fail
        refine HC1.out.mono ?_
        rintro e w1 ⟨rfl, hb1⟩
        have HB1 : Hid (Below w.heap.size w w1) := grow_on HB.out hb1
        clear hb1 x0 x1 x2 x3 x4 HC1
        go_wp2
        go_roundw
        case rel => exact ⟨k + 1, by go_num, by omega, HU1.out, HB1.out⟩
        case measure => simp [intOf]; omega
    · have hge : ¬ (k : Int) < (U.length : Int) := by omega
      have HE : Hid (ofI (keyIs key) U = -1) := ofI_end fun j hj => HU.out j (by omega)
      go_wp2
      go_ret
      exact ⟨retN HE.out.symm, HB.out⟩
set_option maxHeartbeats 1600000 in
theorem indexN_any (b0 : Nat) (a : Option Addr) (cap : Nat) (U : List PGr) (w : World) (hr : RdGs GA w a U) (hl : U.length ≤ 1048576) (n : Int) (hc : w.cell? ⟨b0, 0, none⟩ = some (.int .i64 n)) :
    Calls Try.prog 45 #[.slice a U.length cap, .func (.func 49) #[] #[.pointer (some ⟨b0, 0, none⟩)]] w fun e w' => e = .returned (.int .i64 (ofI (numIs n) U)) ∧ Below w.heap.size w w' := by
  have hb0 : b0 < w.heap.size := World.block_lt_of_cell? w _ hc
  have HR : Hid (RdGs GA w a U) := hr
  have HK : Hid (w.cell? ⟨b0, 0, none⟩ = some (.int .i64 n)) := hc; clear hr hc
  go_enter Try.func45, Try.ntmps45
  go_wp2
  go_loopw [8] (fun i w' => ∃ k : Nat, i = .int .i64 k ∧ k ≤ U.length ∧ (∀ j, j < k → numIs n (nthG U j) = false) ∧ Below w.heap.size w w') (fun i _ => U.length - (intOf i).toNat)
  case atStart => exact ⟨0, rfl, Nat.zero_le _, fun j h => by omega, Below.refl _ _⟩
  case round =>
    obtain ⟨k, rfl, hk, hu, hw⟩ := hrel
    have HU : Hid (∀ j, j < k → numIs n (nthG U j) = false) := hu
    have HB : Hid (Below w.heap.size w wr) := hw
    clear hu hw
    by_cases hlt : k < U.length
    · have hlt' : (k : Int) < (U.length : Int) := by omega
      obtain ⟨b, off, rfl, hb, kx, kd, ad, cp, hat⟩ := (HR.out.below stays_ga HB.out).get hlt
      have x0 := hat.c0
      have x1 := hat.c1
      have x2 := hat.c2
      have x3 := hat.c3
      have x4 := hat.c4
      have HC1 : Hid (Calls Try.prog 49 #[.agg #[.int .i64 (nthG U k).n, .slice kx (nthG U k).key.length kd, .int .i64 (nthG U k).b, .int .i64 (nthG U k).t, .slice ad (nthG U k).P.length cp], .pointer (some ⟨b0, 0, none⟩)] wr fun e w' => e = .returned (.bool (numIs n (nthG U k))) ∧ Below wr.heap.size wr w') := closN_any b0 kx ad kd cp (nthG U k) n wr ((HB.out.cell (p := ⟨b0, 0, none⟩) hb0).trans HK.out)
      clear hat
      cases he : numIs n (nthG U k) with
      | true =>
        rw [he] at HC1
        have HE : Hid (ofI (numIs n) U = k) := ofI_at hlt HU.out he
        clear he
        go_wp2_with fail
        refine HC1.out.mono ?_
        rintro e w1 ⟨rfl, hb1⟩
        have HB1 : Hid (Below w.heap.size w w1) := grow_on HB.out hb1
        clear hb1 x0 x1 x2 x3 x4 HC1
        go_wp2
        go_ret
        exact ⟨retN HE.out.symm, HB1.out⟩
      | false =>
        rw [he] at HC1
        have HU1 : Hid (∀ j, j < k + 1 → numIs n (nthG U j) = false) := fun j hj => by
          by_cases e : j = k
          · subst e; exact he
          · exact HU.out j (by omega)
        clear he
        go_wp2_with fail
        refine HC1.out.mono ?_
        rintro e w1 ⟨rfl, hb1⟩
        have HB1 : Hid (Below w.heap.size w w1) := grow_on HB.out hb1
        clear hb1 x0 x1 x2 x3 x4 HC1
        go_wp2
        go_roundw
        case rel => exact ⟨k + 1, by go_num, by omega, HU1.out, HB1.out⟩
        case measure => simp [intOf]; omega
    · have hge : ¬ (k : Int) < (U.length : Int) := by omega
      have HE : Hid (ofI (numIs n) U = -1) := ofI_end fun j hj => HU.out j (by omega)
      go_wp2
      go_ret
      exact ⟨retN HE.out.symm, HB.out⟩
end Go.Proofs.Ytgncimlojbnbfaa.GpIx
