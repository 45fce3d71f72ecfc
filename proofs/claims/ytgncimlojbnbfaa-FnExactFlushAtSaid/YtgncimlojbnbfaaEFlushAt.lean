/-
  PROVED: at every slice of groups and all numbers impl.FlushAt answers as spec.FlushAt, leaves them as they were, keeps nothing of them, and its answer lies in memory of its own, so the law laws.FnExactFlushAt returns true, whatever its arguments. No condition.
-/
import Derived.Test.YtgncimlojbnbfaaRows
import Derived.WalkKit
import Derived.ProofKit
import Derived.OpenShut
import Derived.ShutString
import Derived.ChangeOld
import Derived.Below
import Derived.WalkLawsBesides
import Derived.WalkSpells
import Derived.Test.YtgncimlojbnbfaaGpIf
import Derived.Test.YtgncimlojbnbfaaGpY
import Derived.Test.YtgncimlojbnbfaaGpM
import Derived.Test.YtgncimlojbnbfaaGpX
import Derived.Deep.RegionHeld3
namespace Go.Proofs.Ytgncimlojbnbfaa.FnExactFlushAt
open Go.ChangeShapes Go.WideShapes Go.ChangeAt Go.RowKit
open Go.ChangeMaps (open_string shut_string)
set_option linter.unusedVariables false

open Go.Proofs.Ytgncimlojbnbfaa.Labs Go.Proofs.Ytgncimlojbnbfaa.LabS Go.Proofs.Ytgncimlojbnbfaa.Over Go.Proofs.Ytgncimlojbnbfaa.Blk Go.Proofs.Ytgncimlojbnbfaa.Alms Go.Proofs.Ytgncimlojbnbfaa.Rws Go.Proofs.Ytgncimlojbnbfaa.ChnC Go.Proofs.Ytgncimlojbnbfaa.ChnK Go.Proofs.Ytgncimlojbnbfaa.Grp Go.Proofs.Ytgncimlojbnbfaa.Gps Go.Proofs.Ytgncimlojbnbfaa.GpD Go.Proofs.Ytgncimlojbnbfaa.GpC Go.Proofs.Ytgncimlojbnbfaa.GpM Go.Proofs.Ytgncimlojbnbfaa.GpX Go.Proofs.Ytgncimlojbnbfaa.GpF
open Go.Proofs.Ytgncimlojbnbfaa.LabT (held_reads)
open Go.Proofs.Ytgncimlojbnbfaa.Mark (Apart Marked)
theorem rdN {lo : Nat} {w : World} {M c : Nat} {us : List GRow} {U : List PGr} (h : GsB lo w M c us) (hp : grs us = U) (hc : CapsG us) : RdGs GN w (some ⟨M, 0, none⟩) U := by have := h.rn hc; rwa [hp] at this
theorem rdA {lo : Nat} {w : World} {M c : Nat} {us : List GRow} {U : List PGr} (h : GsB lo w M c us) (hp : grs us = U) : RdGs GA w (some ⟨M, 0, none⟩) U := by have := h.rd; rwa [hp] at this
theorem len_g {us : List GRow} {U : List PGr} (h : grs us = U) : us.length = U.length := by rw [← grs_len, h]
theorem rngG {lo : Nat} {w : World} {M c : Nat} {us : List GRow} (h : GsB lo w M c us) : ∀ k, blksG M us k → lo ≤ k ∧ k < w.heap.size := fun k hk => ⟨blksG_low h k hk, blksG_high h k hk⟩
theorem rowsG {lo : Nat} {w : World} {M c : Nat} {us : List GRow} {n : Nat} (h : GsB lo w M c us) (hn : ∀ u ∈ grs us, u.P.length ≤ n ∧ u.key.length ≤ 1048576) (h2 : n ≤ 2000000) : ∀ x ∈ us, x.rs.length ≤ 2000000 ∧ x.key.length ≤ 1048576 ∧ ∀ y ∈ x.rs, y.2.2.l.length ≤ 1048576 := fun x hx => by
  have h1 := hn x.gr (by unfold grs; exact List.mem_map.2 ⟨x, hx, rfl⟩)
  have h3 : x.gr.P.length = x.rs.length := pals_len x.rs
  have h4 : x.gr.key = x.key := rfl
  rw [h4] at h1
  exact ⟨by omega, h1.2, (h.rows.rows x hx).len⟩
theorem eqL_any (M M' c c' lo lo' d d' : Nat) (us us' : List GRow) (U : List PGr) (w : World) (h : GsB lo w M d us) (h' : GsB lo' w M' d' us') (hp : grs us = U) (hp' : grs us' = U) (hl : U.length ≤ maxLen) (hz : FitsG U) :
    Calls Try.prog 14 #[.slice (some ⟨M, 0, none⟩) us.length c, .slice (some ⟨M', 0, none⟩) us'.length c'] w fun e w' => e = .returned (.bool true) ∧ Below w.heap.size w w' := by
  have h1 := rdA h hp
  have h2 := rdA h' hp'
  rw [len_g hp, len_g hp']
  exact Gps.eqGs_any _ _ c c' U w h1 h2 hl hz
theorem each_of {U : List PGr} (h : sumG U ≤ 1048576) : ∀ y ∈ U, y.P.length ≤ 1048576 ∧ y.key.length ≤ 1048576 := fun y hy => by
  have h1 := small_of h y hy
  exact ⟨h1.2.1, h1.1⟩
theorem eqBt_any (n b : Int) (ka ka' : Option Addr) (kc kc' : Nat) (key : List Lab) (a a' : Option Addr) (c c' : Nat) (rs rs' : List ARow) (P : List PAl) (w : World) (hk : Reads w ka key) (hk' : Reads w ka' key) (hkl : key.length ≤ maxLen) (h : RdN w a (pals rs)) (h' : RdN w a' (pals rs')) (hp : pals rs = P) (hp' : pals rs' = P) (hl : P.length ≤ maxLen) (hz : FitsP P) :
    Calls Try.prog 34 #[.agg #[.int .i64 n, .slice ka key.length kc, .int .i64 b, .slice a rs.length c], .agg #[.int .i64 n, .slice ka' key.length kc', .int .i64 b, .slice a' rs'.length c']] w fun e w' => e = .returned (.bool true) ∧ Below w.heap.size w w' := by
  rw [hp] at h
  rw [hp'] at h'
  have e1 : rs.length = P.length := by rw [← hp, pals_len]
  have e2 : rs'.length = P.length := by rw [← hp', pals_len]
  rw [e1, e2]
  exact Grp.eqBatch_any n b ka ka' kc kc' key a a' c c' P w hk hk' hkl h.rd h'.rd hl hz
set_option maxRecDepth 100000 in
set_option maxHeartbeats 16000000 in
theorem walk (a0 : Option Addr) (cap0 : Nat) (l0 : List PGr) (a1 : Int) (a2 : Int) (w : World) (r0 : RdGs GA w a0 l0) (m0 : l0.length ≤ maxLen) (z0 : FitsG l0) (_v1 : (Lit.int .i64 a1).wf = true) (_v2 : (Lit.int .i64 a2).wf = true) :
    Calls Try.prog 7 #[.slice a0 l0.length cap0, .int .i64 a1, .int .i64 a2] w fun e w' => e = .returned (.bool true) ∧ Below w.heap.size w w' := by
  have R0 : Hid (RdGs GA w a0 l0) := r0
  have M0 : Hid (l0.length ≤ maxLen) := m0
  have F0 : Hid (FitsG l0) := z0
  clear r0 m0 z0
  have B0 : Hid (Below w.heap.size w w) := Below.refl _ _
  go_enter Try.func7, Try.ntmps7
  go_wp2_with fail
  refine (Gps.szGs_any a0 cap0 l0 1048576 _ (R0.out.below stays_ga B0.out) M0.out F0.out (by omega) (by omega)).mono ?_
  rintro e w1 ⟨⟨k0, rfl, p0, hn⟩, hb⟩
  have B1 : Hid (Below w.heap.size w w1) := grow_on B0.out hb
  have Z1 : Hid (w.heap.size ≤ w1.heap.size) := hb.size
  clear hb
  by_cases g0 : k0 < 0
  · clear hn
    go_wp2
    go_ret
    exact ⟨rfl, B1.out⟩
  have K0 : Hid (l0.length ≤ 1048576 ∧ sumG l0 ≤ 1048576 ∧ l0.length + sumG l0 ≤ 1048576) := by have := hn (by omega); exact ⟨by omega, by omega, by omega⟩
  have N0 : Hid (SmallG l0) := small_of K0.out.2.1
  have CAP : Hid (l0.length ≤ l0.length ∧ l0.length ≤ maxLen) := ⟨Nat.le_refl _, M0.out⟩
  clear hn
  rcases ofI_cases (numIs a1) l0 with ⟨he, _⟩ | ⟨k, he, hk, _, _⟩
  ·
    have HE : Hid (ofI (numIs a1) l0 = -1) := he
    clear he
    have PE : Hid (∀ y ∈ l0, y.P.length ≤ 1048576 ∧ y.key.length ≤ 1048576) := each_of K0.out.2.1
    have PL : Hid (l0.length ≤ maxLen ∧ FitsG l0) := ⟨M0.out, F0.out⟩
    have PS : Hid (l0.length ≤ l0.length ∧ sumG l0 ≤ sumG l0) := ⟨Nat.le_refl _, Nat.le_refl _⟩
    go_wp2_with fail
    refine (Gps.toGs_any a0 cap0 l0 _ (R0.out.below stays_ga B1.out) K0.out.1 K0.out.2.1).mono ?_
    rintro e w2 ⟨rfl, ⟨Tr, hA, hP, hC⟩, hb⟩
    have T_2 : Hid (GsB w1.heap.size w2 w1.heap.size l0.length Tr) := hA
    have TP : Hid (grs Tr = l0) := hP
    have TC : Hid (CapsG Tr) := hC
    have TR : Hid (∀ k, blksG w1.heap.size Tr k → w1.heap.size ≤ k ∧ k < w2.heap.size) := rngG hA
    clear hA hP hC
    have B2 : Hid (Below w.heap.size w w2) := grow_on B1.out hb
    have Z2 : Hid (w1.heap.size ≤ w2.heap.size) := hb.size
    clear hb
    go_wp2_with fail
    refine (GpY.specF_none _ _ l0 a1 a2 _ (rdN T_2.out TP.out TC.out) K0.out.1 CAP.out N0.out HE.out).mono ?_
    rintro e w3 ⟨⟨WM, Wc, Wr, rfl, hA, hP⟩, hb⟩
    have W_3 : Hid (GsB w2.heap.size w3 WM Wc Wr) := hA
    have WP : Hid (grs Wr = l0) := hP
    have WR : Hid (∀ k, blksG WM Wr k → w2.heap.size ≤ k ∧ k < w3.heap.size) := rngG hA
    clear hA hP
    have B3 : Hid (Below w.heap.size w w3) := grow_on B2.out hb
    have Z3 : Hid (w2.heap.size ≤ w3.heap.size) := hb.size
    have T_3 : Hid (GsB w1.heap.size w3 w1.heap.size l0.length Tr) := T_2.out.grow hb
    clear hb
    go_wp2_with fail
    refine (Gps.toGs_any a0 cap0 l0 _ (R0.out.below stays_ga (grow_on B3.out (Go.Joins.below_alloc1 w3 _))) K0.out.1 K0.out.2.1).mono ?_
    rintro e w4 ⟨rfl, ⟨Xr, hA, hP, hC⟩, hb⟩
    have X_4 : Hid (GsB (w3.heap.size + 1) w4 (w3.heap.size + 1) l0.length Xr) := by show GsB _ _ _ _ _; simpa using hA
    have XP : Hid (grs Xr = l0) := hP
    have XC : Hid (CapsG Xr) := hC
    have XR : Hid (∀ k, blksG (w3.heap.size + 1) Xr k → w3.heap.size + 1 ≤ k ∧ k < w4.heap.size) := rngG X_4.out
    clear hA hP hC
    have W0_4 : Hid (Blk w4 w3.heap.size #[.int .i64 0, .slice none 0 0, .int .i64 0, .slice none 0 0] 55) := (Blk.new _ _ _).grow hb
    have U_W0 : Hid (w3.heap.size ≤ w3.heap.size ∧ w3.heap.size < w4.heap.size) := ⟨by omega, W0_4.out.lt⟩
    replace hb := grow_on (Go.Joins.below_alloc1 w3 _) hb
    have B4 : Hid (Below w.heap.size w w4) := grow_on B3.out hb
    have Z4 : Hid (w3.heap.size ≤ w4.heap.size) := hb.size
    have W_4 : Hid (GsB w2.heap.size w4 WM Wc Wr) := W_3.out.grow hb
    clear hb
    have cW00 : w4.cell? ⟨w3.heap.size, 0, none⟩ = some (.int .i64 0) := (W0_4.out).cell 0
    have cW01 : w4.cell? ⟨w3.heap.size, 1, none⟩ = some (.slice none 0 0) := (W0_4.out).cell 1
    have cW02 : w4.cell? ⟨w3.heap.size, 2, none⟩ = some (.int .i64 0) := (W0_4.out).cell 2
    have cW03 : w4.cell? ⟨w3.heap.size, 3, none⟩ = some (.slice none 0 0) := (W0_4.out).cell 3
    go_wp2_with fail
    refine (GpY.implF_none _ _ l0 a1 a2 _ (rdN X_4.out XP.out XC.out) K0.out.1 CAP.out N0.out HE.out).mono ?_
    rintro e w5 ⟨⟨GM, Gc, Gr, rfl, hA, hP⟩, hb⟩
    have G_5 : Hid (GsB w4.heap.size w5 GM Gc Gr) := hA
    have GP : Hid (grs Gr = l0) := hP
    have GR : Hid (∀ k, blksG GM Gr k → w4.heap.size ≤ k ∧ k < w5.heap.size) := rngG hA
    have GL : Hid (∀ x ∈ Gr, x.rs.length ≤ 2000000 ∧ x.key.length ≤ 1048576 ∧ ∀ y ∈ x.rs, y.2.2.l.length ≤ 1048576) := rowsG (n := 1048576) hA (by rw [hP]; exact PE.out) (by omega)
    clear hA hP
    have B5 : Hid (Below w.heap.size w w5) := grow_on B4.out hb
    have Z5 : Hid (w4.heap.size ≤ w5.heap.size) := hb.size
    have W_5 : Hid (GsB w2.heap.size w5 WM Wc Wr) := W_4.out.grow hb
    have W0_5 : Hid (Blk w5 w3.heap.size #[.int .i64 0, .slice none 0 0, .int .i64 0, .slice none 0 0] 55) := W0_4.out.grow hb
    have X_5 : Hid (GsB (w3.heap.size + 1) w5 (w3.heap.size + 1) l0.length Xr) := X_4.out.grow hb
    clear hb cW00 cW01 cW02 cW03
    have cW00 : (w5.alloc (.cells #[.int .i64 0, .slice none 0 0, .int .i64 0, .slice none 0 0] 55)).cell? ⟨w3.heap.size, 0, none⟩ = some (.int .i64 0) := ((W0_5.out.alloc _)).cell 0
    have cW01 : (w5.alloc (.cells #[.int .i64 0, .slice none 0 0, .int .i64 0, .slice none 0 0] 55)).cell? ⟨w3.heap.size, 1, none⟩ = some (.slice none 0 0) := ((W0_5.out.alloc _)).cell 1
    have cW02 : (w5.alloc (.cells #[.int .i64 0, .slice none 0 0, .int .i64 0, .slice none 0 0] 55)).cell? ⟨w3.heap.size, 2, none⟩ = some (.int .i64 0) := ((W0_5.out.alloc _)).cell 2
    have cW03 : (w5.alloc (.cells #[.int .i64 0, .slice none 0 0, .int .i64 0, .slice none 0 0] 55)).cell? ⟨w3.heap.size, 3, none⟩ = some (.slice none 0 0) := ((W0_5.out.alloc _)).cell 3
    go_wp2_with fail
    refine (eqL_any _ _ _ _ _ _ _ _ Gr Wr _ _ (G_5.out.grow (Go.Joins.below_alloc1 w5 _)) (W_5.out.grow (Go.Joins.below_alloc1 w5 _)) GP.out WP.out PL.out.1 PL.out.2).mono ?_
    rintro e w6 ⟨rfl, hb⟩
    have G0_6 : Hid (Blk w6 w5.heap.size #[.int .i64 0, .slice none 0 0, .int .i64 0, .slice none 0 0] 55) := (Blk.new _ _ _).grow hb
    have U_G0 : Hid (w5.heap.size ≤ w5.heap.size ∧ w5.heap.size < w6.heap.size) := ⟨by omega, G0_6.out.lt⟩
    replace hb := grow_on (Go.Joins.below_alloc1 w5 _) hb
    have B6 : Hid (Below w.heap.size w w6) := grow_on B5.out hb
    have Z6 : Hid (w5.heap.size ≤ w6.heap.size) := hb.size
    have W_6 : Hid (GsB w2.heap.size w6 WM Wc Wr) := W_5.out.grow hb
    have W0_6 : Hid (Blk w6 w3.heap.size #[.int .i64 0, .slice none 0 0, .int .i64 0, .slice none 0 0] 55) := W0_5.out.grow hb
    have X_6 : Hid (GsB (w3.heap.size + 1) w6 (w3.heap.size + 1) l0.length Xr) := X_5.out.grow hb
    have G_6 : Hid (GsB w4.heap.size w6 GM Gc Gr) := G_5.out.grow hb
    clear hb cW00 cW01 cW02 cW03
    have cW00 : w6.cell? ⟨w3.heap.size, 0, none⟩ = some (.int .i64 0) := (W0_6.out).cell 0
    have cW01 : w6.cell? ⟨w3.heap.size, 1, none⟩ = some (.slice none 0 0) := (W0_6.out).cell 1
    have cW02 : w6.cell? ⟨w3.heap.size, 2, none⟩ = some (.int .i64 0) := (W0_6.out).cell 2
    have cW03 : w6.cell? ⟨w3.heap.size, 3, none⟩ = some (.slice none 0 0) := (W0_6.out).cell 3
    have cG00 : w6.cell? ⟨w5.heap.size, 0, none⟩ = some (.int .i64 0) := (G0_6.out).cell 0
    have cG01 : w6.cell? ⟨w5.heap.size, 1, none⟩ = some (.slice none 0 0) := (G0_6.out).cell 1
    have cG02 : w6.cell? ⟨w5.heap.size, 2, none⟩ = some (.int .i64 0) := (G0_6.out).cell 2
    have cG03 : w6.cell? ⟨w5.heap.size, 3, none⟩ = some (.slice none 0 0) := (G0_6.out).cell 3
    go_wp2_with fail
    refine (GpY.eqB0_any _).mono ?_
    rintro e w7 ⟨rfl, hb⟩
    have B7 : Hid (Below w.heap.size w w7) := grow_on B6.out hb
    have Z7 : Hid (w6.heap.size ≤ w7.heap.size) := hb.size
    have W_7 : Hid (GsB w2.heap.size w7 WM Wc Wr) := W_6.out.grow hb
    have W0_7 : Hid (Blk w7 w3.heap.size #[.int .i64 0, .slice none 0 0, .int .i64 0, .slice none 0 0] 55) := W0_6.out.grow hb
    have X_7 : Hid (GsB (w3.heap.size + 1) w7 (w3.heap.size + 1) l0.length Xr) := X_6.out.grow hb
    have G_7 : Hid (GsB w4.heap.size w7 GM Gc Gr) := G_6.out.grow hb
    have G0_7 : Hid (Blk w7 w5.heap.size #[.int .i64 0, .slice none 0 0, .int .i64 0, .slice none 0 0] 55) := G0_6.out.grow hb
    clear hb cW00 cW01 cW02 cW03 cG00 cG01 cG02 cG03
    have cW00 : w7.cell? ⟨w3.heap.size, 0, none⟩ = some (.int .i64 0) := (W0_7.out).cell 0
    have cW01 : w7.cell? ⟨w3.heap.size, 1, none⟩ = some (.slice none 0 0) := (W0_7.out).cell 1
    have cW02 : w7.cell? ⟨w3.heap.size, 2, none⟩ = some (.int .i64 0) := (W0_7.out).cell 2
    have cW03 : w7.cell? ⟨w3.heap.size, 3, none⟩ = some (.slice none 0 0) := (W0_7.out).cell 3
    have cG00 : w7.cell? ⟨w5.heap.size, 0, none⟩ = some (.int .i64 0) := (G0_7.out).cell 0
    have cG01 : w7.cell? ⟨w5.heap.size, 1, none⟩ = some (.slice none 0 0) := (G0_7.out).cell 1
    have cG02 : w7.cell? ⟨w5.heap.size, 2, none⟩ = some (.int .i64 0) := (G0_7.out).cell 2
    have cG03 : w7.cell? ⟨w5.heap.size, 3, none⟩ = some (.slice none 0 0) := (G0_7.out).cell 3
    go_wp2_with fail
    refine (Gps.toGs_any a0 cap0 l0 _ (R0.out.below stays_ga B7.out) K0.out.1 K0.out.2.1).mono ?_
    rintro e w8 ⟨rfl, ⟨Er, hA, hP, hC⟩, hb⟩
    have E_8 : Hid (GsB w7.heap.size w8 w7.heap.size l0.length Er) := hA
    have EP : Hid (grs Er = l0) := hP
    have EC : Hid (CapsG Er) := hC
    have ER : Hid (∀ k, blksG w7.heap.size Er k → w7.heap.size ≤ k ∧ k < w8.heap.size) := rngG hA
    clear hA hP hC
    have B8 : Hid (Below w.heap.size w w8) := grow_on B7.out hb
    have Z8 : Hid (w7.heap.size ≤ w8.heap.size) := hb.size
    have W_8 : Hid (GsB w2.heap.size w8 WM Wc Wr) := W_7.out.grow hb
    have W0_8 : Hid (Blk w8 w3.heap.size #[.int .i64 0, .slice none 0 0, .int .i64 0, .slice none 0 0] 55) := W0_7.out.grow hb
    have X_8 : Hid (GsB (w3.heap.size + 1) w8 (w3.heap.size + 1) l0.length Xr) := X_7.out.grow hb
    have G_8 : Hid (GsB w4.heap.size w8 GM Gc Gr) := G_7.out.grow hb
    have G0_8 : Hid (Blk w8 w5.heap.size #[.int .i64 0, .slice none 0 0, .int .i64 0, .slice none 0 0] 55) := G0_7.out.grow hb
    clear hb cW00 cW01 cW02 cW03 cG00 cG01 cG02 cG03
    have cW00 : w8.cell? ⟨w3.heap.size, 0, none⟩ = some (.int .i64 0) := (W0_8.out).cell 0
    have cW01 : w8.cell? ⟨w3.heap.size, 1, none⟩ = some (.slice none 0 0) := (W0_8.out).cell 1
    have cW02 : w8.cell? ⟨w3.heap.size, 2, none⟩ = some (.int .i64 0) := (W0_8.out).cell 2
    have cW03 : w8.cell? ⟨w3.heap.size, 3, none⟩ = some (.slice none 0 0) := (W0_8.out).cell 3
    have cG00 : w8.cell? ⟨w5.heap.size, 0, none⟩ = some (.int .i64 0) := (G0_8.out).cell 0
    have cG01 : w8.cell? ⟨w5.heap.size, 1, none⟩ = some (.slice none 0 0) := (G0_8.out).cell 1
    have cG02 : w8.cell? ⟨w5.heap.size, 2, none⟩ = some (.int .i64 0) := (G0_8.out).cell 2
    have cG03 : w8.cell? ⟨w5.heap.size, 3, none⟩ = some (.slice none 0 0) := (G0_8.out).cell 3
    go_wp2_with fail
    refine (Gps.eqGs_any _ _ _ _ l0 _ (rdA X_8.out XP.out) (rdA E_8.out EP.out) M0.out F0.out).mono ?_
    rintro e w9 ⟨rfl, hb⟩
    have B9 : Hid (Below w.heap.size w w9) := grow_on B8.out hb
    have Z9 : Hid (w8.heap.size ≤ w9.heap.size) := hb.size
    have W_9 : Hid (GsB w2.heap.size w9 WM Wc Wr) := W_8.out.grow hb
    have W0_9 : Hid (Blk w9 w3.heap.size #[.int .i64 0, .slice none 0 0, .int .i64 0, .slice none 0 0] 55) := W0_8.out.grow hb
    have X_9 : Hid (GsB (w3.heap.size + 1) w9 (w3.heap.size + 1) l0.length Xr) := X_8.out.grow hb
    have G_9 : Hid (GsB w4.heap.size w9 GM Gc Gr) := G_8.out.grow hb
    have G0_9 : Hid (Blk w9 w5.heap.size #[.int .i64 0, .slice none 0 0, .int .i64 0, .slice none 0 0] 55) := G0_8.out.grow hb
    have E_9 : Hid (GsB w7.heap.size w9 w7.heap.size l0.length Er) := E_8.out.grow hb
    clear hb cW00 cW01 cW02 cW03 cG00 cG01 cG02 cG03
    have XL : Hid (Xr.length = l0.length) := len_g XP.out
    have XS : Hid (1 + sumR Xr ≤ 5000000) := by have h1 := sumR_grs Xr; rw [XP.out, XL.out] at h1; have h2 := K0.out.2.2; show _ ≤ _; omega
    have hXM : Hid (Calls Try.prog 28 #[.slice (some ⟨(w3.heap.size + 1), 0, none⟩) l0.length l0.length, .int .i64 1] w9 fun e w' => e = .returned (.int .i64 ((1 + sumR Xr : Nat) : Int)) ∧ Only (blksG (w3.heap.size + 1) Xr) w9 w') := by
      have h := (markGs_any (w3.heap.size + 1) l0.length 1 _ l0.length Xr w9 X_9.out (by rw [XL.out]; have := K0.out.1; omega) (fun x hx => by have h := rowsG (n := 1048576) X_9.out (by rw [XP.out]; exact each_of K0.out.2.1) (by omega) x hx; exact ⟨h.1, h.2.1⟩) (by omega) (by have := XS.out; omega)).mono (fun e w' h => (⟨h.1, h.2.2⟩ : e = .returned (.int .i64 ((1 + sumR Xr : Nat) : Int)) ∧ Only (blksG (w3.heap.size + 1) Xr) w9 w'))
      rw [XL.out] at h
      exact h
    have cW00 : w9.cell? ⟨w3.heap.size, 0, none⟩ = some (.int .i64 0) := (W0_9.out).cell 0
    have cW01 : w9.cell? ⟨w3.heap.size, 1, none⟩ = some (.slice none 0 0) := (W0_9.out).cell 1
    have cW02 : w9.cell? ⟨w3.heap.size, 2, none⟩ = some (.int .i64 0) := (W0_9.out).cell 2
    have cW03 : w9.cell? ⟨w3.heap.size, 3, none⟩ = some (.slice none 0 0) := (W0_9.out).cell 3
    have cG00 : w9.cell? ⟨w5.heap.size, 0, none⟩ = some (.int .i64 0) := (G0_9.out).cell 0
    have cG01 : w9.cell? ⟨w5.heap.size, 1, none⟩ = some (.slice none 0 0) := (G0_9.out).cell 1
    have cG02 : w9.cell? ⟨w5.heap.size, 2, none⟩ = some (.int .i64 0) := (G0_9.out).cell 2
    have cG03 : w9.cell? ⟨w5.heap.size, 3, none⟩ = some (.slice none 0 0) := (G0_9.out).cell 3
    go_wp2_with fail
    refine (hXM.out).mono ?_
    rintro e w10 ⟨rfl, ho⟩
    have B10 : Hid (Below w.heap.size w w10) := B9.out.trans (ho.low (fun k hk => by have hx := XR.out k hk; have hw := B3.out.size; have h0 := Z1.out; have h1 := Z2.out; have h2 := Z3.out; have h3 := Z4.out; have h4 := Z5.out; have h5 := Z6.out; have h6 := Z7.out; have h7 := Z8.out; have h8 := Z9.out; have h9 := U_W0.out; have h10 := U_G0.out; omega) B9.out.size)
    have Z10 : Hid (w9.heap.size ≤ w10.heap.size) := ho.size
    have W_10 : Hid (GsB w2.heap.size w10 WM Wc Wr) := gs_only W_9.out ho (fun k hk hs => by have hx := XR.out k hs; have hy := WR.out k hk; have h0 := Z1.out; have h1 := Z2.out; have h2 := Z3.out; have h3 := Z4.out; have h4 := Z5.out; have h5 := Z6.out; have h6 := Z7.out; have h7 := Z8.out; have h8 := Z9.out; have h9 := Z10.out; have h10 := U_W0.out; have h11 := U_G0.out; omega)
    have W0_10 : Hid (Blk w10 w3.heap.size #[.int .i64 0, .slice none 0 0, .int .i64 0, .slice none 0 0] 55) := ho.blk W0_9.out (fun hs => by have hx := XR.out _ hs; have h0 := Z1.out; have h1 := Z2.out; have h2 := Z3.out; have h3 := Z4.out; have h4 := Z5.out; have h5 := Z6.out; have h6 := Z7.out; have h7 := Z8.out; have h8 := Z9.out; have h9 := Z10.out; have h10 := U_W0.out; have h11 := U_G0.out; omega)
    have G_10 : Hid (GsB w4.heap.size w10 GM Gc Gr) := gs_only G_9.out ho (fun k hk hs => by have hx := XR.out k hs; have hy := GR.out k hk; have h0 := Z1.out; have h1 := Z2.out; have h2 := Z3.out; have h3 := Z4.out; have h4 := Z5.out; have h5 := Z6.out; have h6 := Z7.out; have h7 := Z8.out; have h8 := Z9.out; have h9 := Z10.out; have h10 := U_W0.out; have h11 := U_G0.out; omega)
    have G0_10 : Hid (Blk w10 w5.heap.size #[.int .i64 0, .slice none 0 0, .int .i64 0, .slice none 0 0] 55) := ho.blk G0_9.out (fun hs => by have hx := XR.out _ hs; have h0 := Z1.out; have h1 := Z2.out; have h2 := Z3.out; have h3 := Z4.out; have h4 := Z5.out; have h5 := Z6.out; have h6 := Z7.out; have h7 := Z8.out; have h8 := Z9.out; have h9 := Z10.out; have h10 := U_W0.out; have h11 := U_G0.out; omega)
    clear ho cW00 cW01 cW02 cW03 cG00 cG01 cG02 cG03
    have hq : ¬ ((1 + sumR Xr : Nat) : Int) < 0 := by omega
    generalize 1 + sumR Xr = m1 at hq ⊢
    have cW00 : w10.cell? ⟨w3.heap.size, 0, none⟩ = some (.int .i64 0) := (W0_10.out).cell 0
    have cW01 : w10.cell? ⟨w3.heap.size, 1, none⟩ = some (.slice none 0 0) := (W0_10.out).cell 1
    have cW02 : w10.cell? ⟨w3.heap.size, 2, none⟩ = some (.int .i64 0) := (W0_10.out).cell 2
    have cW03 : w10.cell? ⟨w3.heap.size, 3, none⟩ = some (.slice none 0 0) := (W0_10.out).cell 3
    have cG00 : w10.cell? ⟨w5.heap.size, 0, none⟩ = some (.int .i64 0) := (G0_10.out).cell 0
    have cG01 : w10.cell? ⟨w5.heap.size, 1, none⟩ = some (.slice none 0 0) := (G0_10.out).cell 1
    have cG02 : w10.cell? ⟨w5.heap.size, 2, none⟩ = some (.int .i64 0) := (G0_10.out).cell 2
    have cG03 : w10.cell? ⟨w5.heap.size, 3, none⟩ = some (.slice none 0 0) := (G0_10.out).cell 3
    go_wp2_with fail
    refine (eqL_any _ _ _ _ _ _ _ _ Gr Wr _ _ G_10.out W_10.out GP.out WP.out PL.out.1 PL.out.2).mono ?_
    rintro e w11 ⟨rfl, hb⟩
    have B11 : Hid (Below w.heap.size w w11) := grow_on B10.out hb
    have Z11 : Hid (w10.heap.size ≤ w11.heap.size) := hb.size
    have W_11 : Hid (GsB w2.heap.size w11 WM Wc Wr) := W_10.out.grow hb
    have W0_11 : Hid (Blk w11 w3.heap.size #[.int .i64 0, .slice none 0 0, .int .i64 0, .slice none 0 0] 55) := W0_10.out.grow hb
    have G_11 : Hid (GsB w4.heap.size w11 GM Gc Gr) := G_10.out.grow hb
    have G0_11 : Hid (Blk w11 w5.heap.size #[.int .i64 0, .slice none 0 0, .int .i64 0, .slice none 0 0] 55) := G0_10.out.grow hb
    clear hb cW00 cW01 cW02 cW03 cG00 cG01 cG02 cG03
    have cW00 : w11.cell? ⟨w3.heap.size, 0, none⟩ = some (.int .i64 0) := (W0_11.out).cell 0
    have cW01 : w11.cell? ⟨w3.heap.size, 1, none⟩ = some (.slice none 0 0) := (W0_11.out).cell 1
    have cW02 : w11.cell? ⟨w3.heap.size, 2, none⟩ = some (.int .i64 0) := (W0_11.out).cell 2
    have cW03 : w11.cell? ⟨w3.heap.size, 3, none⟩ = some (.slice none 0 0) := (W0_11.out).cell 3
    have cG00 : w11.cell? ⟨w5.heap.size, 0, none⟩ = some (.int .i64 0) := (G0_11.out).cell 0
    have cG01 : w11.cell? ⟨w5.heap.size, 1, none⟩ = some (.slice none 0 0) := (G0_11.out).cell 1
    have cG02 : w11.cell? ⟨w5.heap.size, 2, none⟩ = some (.int .i64 0) := (G0_11.out).cell 2
    have cG03 : w11.cell? ⟨w5.heap.size, 3, none⟩ = some (.slice none 0 0) := (G0_11.out).cell 3
    go_wp2_with fail
    refine (GpY.eqB0_any _).mono ?_
    rintro e w12 ⟨rfl, hb⟩
    have B12 : Hid (Below w.heap.size w w12) := grow_on B11.out hb
    have Z12 : Hid (w11.heap.size ≤ w12.heap.size) := hb.size
    have W_12 : Hid (GsB w2.heap.size w12 WM Wc Wr) := W_11.out.grow hb
    have W0_12 : Hid (Blk w12 w3.heap.size #[.int .i64 0, .slice none 0 0, .int .i64 0, .slice none 0 0] 55) := W0_11.out.grow hb
    have G_12 : Hid (GsB w4.heap.size w12 GM Gc Gr) := G_11.out.grow hb
    have G0_12 : Hid (Blk w12 w5.heap.size #[.int .i64 0, .slice none 0 0, .int .i64 0, .slice none 0 0] 55) := G0_11.out.grow hb
    clear hb cW00 cW01 cW02 cW03 cG00 cG01 cG02 cG03
    clear hq
    have GZ : Hid (1 + sumR Gr ≤ 4000000 ∧ Gr.length ≤ 2000000) := by have h1 := sumR_grs Gr; have h2 := len_g GP.out; rw [GP.out, h2] at h1; have h3 := PS.out; have h4 := K0.out.2.2; have h5 := K0.out.1; exact ⟨by omega, by omega⟩
    have cW00 : w12.cell? ⟨w3.heap.size, 0, none⟩ = some (.int .i64 0) := (W0_12.out).cell 0
    have cW01 : w12.cell? ⟨w3.heap.size, 1, none⟩ = some (.slice none 0 0) := (W0_12.out).cell 1
    have cW02 : w12.cell? ⟨w3.heap.size, 2, none⟩ = some (.int .i64 0) := (W0_12.out).cell 2
    have cW03 : w12.cell? ⟨w3.heap.size, 3, none⟩ = some (.slice none 0 0) := (W0_12.out).cell 3
    have cG00 : w12.cell? ⟨w5.heap.size, 0, none⟩ = some (.int .i64 0) := (G0_12.out).cell 0
    have cG01 : w12.cell? ⟨w5.heap.size, 1, none⟩ = some (.slice none 0 0) := (G0_12.out).cell 1
    have cG02 : w12.cell? ⟨w5.heap.size, 2, none⟩ = some (.int .i64 0) := (G0_12.out).cell 2
    have cG03 : w12.cell? ⟨w5.heap.size, 3, none⟩ = some (.slice none 0 0) := (G0_12.out).cell 3
    go_wp2_with fail
    refine (markGs_any GM Gc 1 _ Gc Gr w12 G_12.out GZ.out.2 (fun x hx => ⟨(GL.out x hx).1, (GL.out x hx).2.1⟩) (by omega) (by have := GZ.out.1; omega)).mono ?_
    rintro e w13 ⟨rfl, hm, ho⟩
    have B13 : Hid (Below w.heap.size w w13) := B12.out.trans (ho.low (fun k hk => by have hx := GR.out k hk; have hw := B4.out.size; have h0 := Z1.out; have h1 := Z2.out; have h2 := Z3.out; have h3 := Z4.out; have h4 := Z5.out; have h5 := Z6.out; have h6 := Z7.out; have h7 := Z8.out; have h8 := Z9.out; have h9 := Z10.out; have h10 := Z11.out; have h11 := Z12.out; have h12 := U_W0.out; have h13 := U_G0.out; omega) B12.out.size)
    have Z13 : Hid (w12.heap.size ≤ w13.heap.size) := ho.size
    have W_13 : Hid (GsB w2.heap.size w13 WM Wc Wr) := gs_only W_12.out ho (fun k hk hs => by have hx := GR.out k hs; have hy := WR.out k hk; have h0 := Z1.out; have h1 := Z2.out; have h2 := Z3.out; have h3 := Z4.out; have h4 := Z5.out; have h5 := Z6.out; have h6 := Z7.out; have h7 := Z8.out; have h8 := Z9.out; have h9 := Z10.out; have h10 := Z11.out; have h11 := Z12.out; have h12 := Z13.out; have h13 := U_W0.out; have h14 := U_G0.out; omega)
    have W0_13 : Hid (Blk w13 w3.heap.size #[.int .i64 0, .slice none 0 0, .int .i64 0, .slice none 0 0] 55) := ho.blk W0_12.out (fun hs => by have hx := GR.out _ hs; have h0 := Z1.out; have h1 := Z2.out; have h2 := Z3.out; have h3 := Z4.out; have h4 := Z5.out; have h5 := Z6.out; have h6 := Z7.out; have h7 := Z8.out; have h8 := Z9.out; have h9 := Z10.out; have h10 := Z11.out; have h11 := Z12.out; have h12 := Z13.out; have h13 := U_W0.out; have h14 := U_G0.out; omega)
    have G0_13 : Hid (Blk w13 w5.heap.size #[.int .i64 0, .slice none 0 0, .int .i64 0, .slice none 0 0] 55) := ho.blk G0_12.out (fun hs => by have hx := GR.out _ hs; have h0 := Z1.out; have h1 := Z2.out; have h2 := Z3.out; have h3 := Z4.out; have h4 := Z5.out; have h5 := Z6.out; have h6 := Z7.out; have h7 := Z8.out; have h8 := Z9.out; have h9 := Z10.out; have h10 := Z11.out; have h11 := Z12.out; have h12 := Z13.out; have h13 := U_W0.out; have h14 := U_G0.out; omega)
    have H_13 : Hid (MR w13 GM Gr 1 Gr.length) := hm
    clear hm
    clear ho cW00 cW01 cW02 cW03 cG00 cG01 cG02 cG03
    have MG : Hid (1 ≤ 1 + sumR Gr ∧ 1 + sumR Gr ≤ 4000000) := by have := GZ.out.1; exact ⟨by omega, by omega⟩
    obtain ⟨m4, hm4⟩ : ∃ m, 1 + sumR Gr = m := ⟨_, rfl⟩
    have HM4 : Hid (1 + sumR Gr = m4) := hm4
    rw [hm4] at MG ⊢
    clear hm4
    have cW00 : w13.cell? ⟨w3.heap.size, 0, none⟩ = some (.int .i64 0) := (W0_13.out).cell 0
    have cW01 : w13.cell? ⟨w3.heap.size, 1, none⟩ = some (.slice none 0 0) := (W0_13.out).cell 1
    have cW02 : w13.cell? ⟨w3.heap.size, 2, none⟩ = some (.int .i64 0) := (W0_13.out).cell 2
    have cW03 : w13.cell? ⟨w3.heap.size, 3, none⟩ = some (.slice none 0 0) := (W0_13.out).cell 3
    have cG00 : w13.cell? ⟨w5.heap.size, 0, none⟩ = some (.int .i64 0) := (G0_13.out).cell 0
    have cG01 : w13.cell? ⟨w5.heap.size, 1, none⟩ = some (.slice none 0 0) := (G0_13.out).cell 1
    have cG02 : w13.cell? ⟨w5.heap.size, 2, none⟩ = some (.int .i64 0) := (G0_13.out).cell 2
    have cG03 : w13.cell? ⟨w5.heap.size, 3, none⟩ = some (.slice none 0 0) := (G0_13.out).cell 3
    go_wp2_with fail
    refine (GpY.markB0_any m4 _).mono ?_
    rintro e w14 ⟨rfl, hb⟩
    have B14 : Hid (Below w.heap.size w w14) := grow_on B13.out hb
    have Z14 : Hid (w13.heap.size ≤ w14.heap.size) := hb.size
    have W_14 : Hid (GsB w2.heap.size w14 WM Wc Wr) := W_13.out.grow hb
    have W0_14 : Hid (Blk w14 w3.heap.size #[.int .i64 0, .slice none 0 0, .int .i64 0, .slice none 0 0] 55) := W0_13.out.grow hb
    have G0_14 : Hid (Blk w14 w5.heap.size #[.int .i64 0, .slice none 0 0, .int .i64 0, .slice none 0 0] 55) := G0_13.out.grow hb
    have H_14 : Hid (MR w14 GM Gr 1 Gr.length) := H_13.out.grow hb
    clear hb cW00 cW01 cW02 cW03 cG00 cG01 cG02 cG03
    have hq : ¬ ((1 + sumR Gr : Nat) : Int) < 0 := by omega
    have cW00 : w14.cell? ⟨w3.heap.size, 0, none⟩ = some (.int .i64 0) := (W0_14.out).cell 0
    have cW01 : w14.cell? ⟨w3.heap.size, 1, none⟩ = some (.slice none 0 0) := (W0_14.out).cell 1
    have cW02 : w14.cell? ⟨w3.heap.size, 2, none⟩ = some (.int .i64 0) := (W0_14.out).cell 2
    have cW03 : w14.cell? ⟨w3.heap.size, 3, none⟩ = some (.slice none 0 0) := (W0_14.out).cell 3
    have cG00 : w14.cell? ⟨w5.heap.size, 0, none⟩ = some (.int .i64 0) := (G0_14.out).cell 0
    have cG01 : w14.cell? ⟨w5.heap.size, 1, none⟩ = some (.slice none 0 0) := (G0_14.out).cell 1
    have cG02 : w14.cell? ⟨w5.heap.size, 2, none⟩ = some (.int .i64 0) := (G0_14.out).cell 2
    have cG03 : w14.cell? ⟨w5.heap.size, 3, none⟩ = some (.slice none 0 0) := (G0_14.out).cell 3
    go_wp2_with fail
    refine (heldGs_any GM 1 Gc Gr _ H_14.out GL.out GZ.out.2 (by omega) (by have := GZ.out.1; omega)).mono ?_
    rintro e w15 ⟨rfl, hb⟩
    have B15 : Hid (Below w.heap.size w w15) := grow_on B14.out hb
    have Z15 : Hid (w14.heap.size ≤ w15.heap.size) := hb.size
    have W_15 : Hid (GsB w2.heap.size w15 WM Wc Wr) := W_14.out.grow hb
    have W0_15 : Hid (Blk w15 w3.heap.size #[.int .i64 0, .slice none 0 0, .int .i64 0, .slice none 0 0] 55) := W0_14.out.grow hb
    have G0_15 : Hid (Blk w15 w5.heap.size #[.int .i64 0, .slice none 0 0, .int .i64 0, .slice none 0 0] 55) := G0_14.out.grow hb
    have H_15 : Hid (MR w15 GM Gr 1 Gr.length) := H_14.out.grow hb
    clear hb cW00 cW01 cW02 cW03 cG00 cG01 cG02 cG03
    rw [HM4.out] at hq ⊢
    have cW00 : w15.cell? ⟨w3.heap.size, 0, none⟩ = some (.int .i64 0) := (W0_15.out).cell 0
    have cW01 : w15.cell? ⟨w3.heap.size, 1, none⟩ = some (.slice none 0 0) := (W0_15.out).cell 1
    have cW02 : w15.cell? ⟨w3.heap.size, 2, none⟩ = some (.int .i64 0) := (W0_15.out).cell 2
    have cW03 : w15.cell? ⟨w3.heap.size, 3, none⟩ = some (.slice none 0 0) := (W0_15.out).cell 3
    have cG00 : w15.cell? ⟨w5.heap.size, 0, none⟩ = some (.int .i64 0) := (G0_15.out).cell 0
    have cG01 : w15.cell? ⟨w5.heap.size, 1, none⟩ = some (.slice none 0 0) := (G0_15.out).cell 1
    have cG02 : w15.cell? ⟨w5.heap.size, 2, none⟩ = some (.int .i64 0) := (G0_15.out).cell 2
    have cG03 : w15.cell? ⟨w5.heap.size, 3, none⟩ = some (.slice none 0 0) := (G0_15.out).cell 3
    go_wp2_with fail
    refine (GpY.heldB0_any m4 _).mono ?_
    rintro e w16 ⟨rfl, hb⟩
    have B16 : Hid (Below w.heap.size w w16) := grow_on B15.out hb
    have Z16 : Hid (w15.heap.size ≤ w16.heap.size) := hb.size
    have W_16 : Hid (GsB w2.heap.size w16 WM Wc Wr) := W_15.out.grow hb
    have W0_16 : Hid (Blk w16 w3.heap.size #[.int .i64 0, .slice none 0 0, .int .i64 0, .slice none 0 0] 55) := W0_15.out.grow hb
    have G0_16 : Hid (Blk w16 w5.heap.size #[.int .i64 0, .slice none 0 0, .int .i64 0, .slice none 0 0] 55) := G0_15.out.grow hb
    have H_16 : Hid (MR w16 GM Gr 1 Gr.length) := H_15.out.grow hb
    clear hb cW00 cW01 cW02 cW03 cG00 cG01 cG02 cG03
    have cW00 : w16.cell? ⟨w3.heap.size, 0, none⟩ = some (.int .i64 0) := (W0_16.out).cell 0
    have cW01 : w16.cell? ⟨w3.heap.size, 1, none⟩ = some (.slice none 0 0) := (W0_16.out).cell 1
    have cW02 : w16.cell? ⟨w3.heap.size, 2, none⟩ = some (.int .i64 0) := (W0_16.out).cell 2
    have cW03 : w16.cell? ⟨w3.heap.size, 3, none⟩ = some (.slice none 0 0) := (W0_16.out).cell 3
    have cG00 : w16.cell? ⟨w5.heap.size, 0, none⟩ = some (.int .i64 0) := (G0_16.out).cell 0
    have cG01 : w16.cell? ⟨w5.heap.size, 1, none⟩ = some (.slice none 0 0) := (G0_16.out).cell 1
    have cG02 : w16.cell? ⟨w5.heap.size, 2, none⟩ = some (.int .i64 0) := (G0_16.out).cell 2
    have cG03 : w16.cell? ⟨w5.heap.size, 3, none⟩ = some (.slice none 0 0) := (G0_16.out).cell 3
    go_wp2_with fail
    refine (Gps.toGs_any a0 cap0 l0 _ (R0.out.below stays_ga B16.out) K0.out.1 K0.out.2.1).mono ?_
    rintro e w17 ⟨rfl, ⟨Ur, hA, hP, hC⟩, hb⟩
    have U_17 : Hid (GsB w16.heap.size w17 w16.heap.size l0.length Ur) := hA
    have UP : Hid (grs Ur = l0) := hP
    have UC : Hid (CapsG Ur) := hC
    have UR : Hid (∀ k, blksG w16.heap.size Ur k → w16.heap.size ≤ k ∧ k < w17.heap.size) := rngG hA
    clear hA hP hC
    have B17 : Hid (Below w.heap.size w w17) := grow_on B16.out hb
    have Z17 : Hid (w16.heap.size ≤ w17.heap.size) := hb.size
    have W_17 : Hid (GsB w2.heap.size w17 WM Wc Wr) := W_16.out.grow hb
    have W0_17 : Hid (Blk w17 w3.heap.size #[.int .i64 0, .slice none 0 0, .int .i64 0, .slice none 0 0] 55) := W0_16.out.grow hb
    have G0_17 : Hid (Blk w17 w5.heap.size #[.int .i64 0, .slice none 0 0, .int .i64 0, .slice none 0 0] 55) := G0_16.out.grow hb
    have H_17 : Hid (MR w17 GM Gr 1 Gr.length) := H_16.out.grow hb
    clear hb cW00 cW01 cW02 cW03 cG00 cG01 cG02 cG03
    have cW00 : w17.cell? ⟨w3.heap.size, 0, none⟩ = some (.int .i64 0) := (W0_17.out).cell 0
    have cW01 : w17.cell? ⟨w3.heap.size, 1, none⟩ = some (.slice none 0 0) := (W0_17.out).cell 1
    have cW02 : w17.cell? ⟨w3.heap.size, 2, none⟩ = some (.int .i64 0) := (W0_17.out).cell 2
    have cW03 : w17.cell? ⟨w3.heap.size, 3, none⟩ = some (.slice none 0 0) := (W0_17.out).cell 3
    have cG00 : w17.cell? ⟨w5.heap.size, 0, none⟩ = some (.int .i64 0) := (G0_17.out).cell 0
    have cG01 : w17.cell? ⟨w5.heap.size, 1, none⟩ = some (.slice none 0 0) := (G0_17.out).cell 1
    have cG02 : w17.cell? ⟨w5.heap.size, 2, none⟩ = some (.int .i64 0) := (G0_17.out).cell 2
    have cG03 : w17.cell? ⟨w5.heap.size, 3, none⟩ = some (.slice none 0 0) := (G0_17.out).cell 3
    go_wp2_with fail
    refine (GpY.implF_none _ _ l0 a1 a2 _ (rdN U_17.out UP.out UC.out) K0.out.1 CAP.out N0.out HE.out).mono ?_
    rintro e w18 ⟨⟨VM, Vc, Vr, rfl, hA, hP⟩, hb⟩
    have V_18 : Hid (GsB w17.heap.size w18 VM Vc Vr) := hA
    have VP : Hid (grs Vr = l0) := hP
    have VR : Hid (∀ k, blksG VM Vr k → w17.heap.size ≤ k ∧ k < w18.heap.size) := rngG hA
    clear hA hP
    have B18 : Hid (Below w.heap.size w w18) := grow_on B17.out hb
    have Z18 : Hid (w17.heap.size ≤ w18.heap.size) := hb.size
    have W_18 : Hid (GsB w2.heap.size w18 WM Wc Wr) := W_17.out.grow hb
    have W0_18 : Hid (Blk w18 w3.heap.size #[.int .i64 0, .slice none 0 0, .int .i64 0, .slice none 0 0] 55) := W0_17.out.grow hb
    have G0_18 : Hid (Blk w18 w5.heap.size #[.int .i64 0, .slice none 0 0, .int .i64 0, .slice none 0 0] 55) := G0_17.out.grow hb
    have H_18 : Hid (MR w18 GM Gr 1 Gr.length) := H_17.out.grow hb
    have U_18 : Hid (GsB w16.heap.size w18 w16.heap.size l0.length Ur) := U_17.out.grow hb
    clear hb cW00 cW01 cW02 cW03 cG00 cG01 cG02 cG03
    clear hq
    have cW00 : (w18.alloc (.cells #[.int .i64 0, .slice none 0 0, .int .i64 0, .slice none 0 0] 55)).cell? ⟨w3.heap.size, 0, none⟩ = some (.int .i64 0) := ((W0_18.out.alloc _)).cell 0
    have cW01 : (w18.alloc (.cells #[.int .i64 0, .slice none 0 0, .int .i64 0, .slice none 0 0] 55)).cell? ⟨w3.heap.size, 1, none⟩ = some (.slice none 0 0) := ((W0_18.out.alloc _)).cell 1
    have cW02 : (w18.alloc (.cells #[.int .i64 0, .slice none 0 0, .int .i64 0, .slice none 0 0] 55)).cell? ⟨w3.heap.size, 2, none⟩ = some (.int .i64 0) := ((W0_18.out.alloc _)).cell 2
    have cW03 : (w18.alloc (.cells #[.int .i64 0, .slice none 0 0, .int .i64 0, .slice none 0 0] 55)).cell? ⟨w3.heap.size, 3, none⟩ = some (.slice none 0 0) := ((W0_18.out.alloc _)).cell 3
    have cG00 : (w18.alloc (.cells #[.int .i64 0, .slice none 0 0, .int .i64 0, .slice none 0 0] 55)).cell? ⟨w5.heap.size, 0, none⟩ = some (.int .i64 0) := ((G0_18.out.alloc _)).cell 0
    have cG01 : (w18.alloc (.cells #[.int .i64 0, .slice none 0 0, .int .i64 0, .slice none 0 0] 55)).cell? ⟨w5.heap.size, 1, none⟩ = some (.slice none 0 0) := ((G0_18.out.alloc _)).cell 1
    have cG02 : (w18.alloc (.cells #[.int .i64 0, .slice none 0 0, .int .i64 0, .slice none 0 0] 55)).cell? ⟨w5.heap.size, 2, none⟩ = some (.int .i64 0) := ((G0_18.out.alloc _)).cell 2
    have cG03 : (w18.alloc (.cells #[.int .i64 0, .slice none 0 0, .int .i64 0, .slice none 0 0] 55)).cell? ⟨w5.heap.size, 3, none⟩ = some (.slice none 0 0) := ((G0_18.out.alloc _)).cell 3
    go_wp2_with fail
    refine (eqL_any _ _ _ _ _ _ _ _ Vr Wr _ _ (V_18.out.grow (Go.Joins.below_alloc1 w18 _)) (W_18.out.grow (Go.Joins.below_alloc1 w18 _)) VP.out WP.out PL.out.1 PL.out.2).mono ?_
    rintro e w19 ⟨rfl, hb⟩
    have V0_19 : Hid (Blk w19 w18.heap.size #[.int .i64 0, .slice none 0 0, .int .i64 0, .slice none 0 0] 55) := (Blk.new _ _ _).grow hb
    have U_V0 : Hid (w18.heap.size ≤ w18.heap.size ∧ w18.heap.size < w19.heap.size) := ⟨by omega, V0_19.out.lt⟩
    replace hb := grow_on (Go.Joins.below_alloc1 w18 _) hb
    have B19 : Hid (Below w.heap.size w w19) := grow_on B18.out hb
    have Z19 : Hid (w18.heap.size ≤ w19.heap.size) := hb.size
    have W_19 : Hid (GsB w2.heap.size w19 WM Wc Wr) := W_18.out.grow hb
    have W0_19 : Hid (Blk w19 w3.heap.size #[.int .i64 0, .slice none 0 0, .int .i64 0, .slice none 0 0] 55) := W0_18.out.grow hb
    have G0_19 : Hid (Blk w19 w5.heap.size #[.int .i64 0, .slice none 0 0, .int .i64 0, .slice none 0 0] 55) := G0_18.out.grow hb
    have H_19 : Hid (MR w19 GM Gr 1 Gr.length) := H_18.out.grow hb
    have V_19 : Hid (GsB w17.heap.size w19 VM Vc Vr) := V_18.out.grow hb
    clear hb cW00 cW01 cW02 cW03 cG00 cG01 cG02 cG03
    have cW00 : w19.cell? ⟨w3.heap.size, 0, none⟩ = some (.int .i64 0) := (W0_19.out).cell 0
    have cW01 : w19.cell? ⟨w3.heap.size, 1, none⟩ = some (.slice none 0 0) := (W0_19.out).cell 1
    have cW02 : w19.cell? ⟨w3.heap.size, 2, none⟩ = some (.int .i64 0) := (W0_19.out).cell 2
    have cW03 : w19.cell? ⟨w3.heap.size, 3, none⟩ = some (.slice none 0 0) := (W0_19.out).cell 3
    have cG00 : w19.cell? ⟨w5.heap.size, 0, none⟩ = some (.int .i64 0) := (G0_19.out).cell 0
    have cG01 : w19.cell? ⟨w5.heap.size, 1, none⟩ = some (.slice none 0 0) := (G0_19.out).cell 1
    have cG02 : w19.cell? ⟨w5.heap.size, 2, none⟩ = some (.int .i64 0) := (G0_19.out).cell 2
    have cG03 : w19.cell? ⟨w5.heap.size, 3, none⟩ = some (.slice none 0 0) := (G0_19.out).cell 3
    have cV00 : w19.cell? ⟨w18.heap.size, 0, none⟩ = some (.int .i64 0) := (V0_19.out).cell 0
    have cV01 : w19.cell? ⟨w18.heap.size, 1, none⟩ = some (.slice none 0 0) := (V0_19.out).cell 1
    have cV02 : w19.cell? ⟨w18.heap.size, 2, none⟩ = some (.int .i64 0) := (V0_19.out).cell 2
    have cV03 : w19.cell? ⟨w18.heap.size, 3, none⟩ = some (.slice none 0 0) := (V0_19.out).cell 3
    go_wp2_with fail
    refine (GpY.eqB0_any _).mono ?_
    rintro e w20 ⟨rfl, hb⟩
    have B20 : Hid (Below w.heap.size w w20) := grow_on B19.out hb
    have Z20 : Hid (w19.heap.size ≤ w20.heap.size) := hb.size
    have W_20 : Hid (GsB w2.heap.size w20 WM Wc Wr) := W_19.out.grow hb
    have W0_20 : Hid (Blk w20 w3.heap.size #[.int .i64 0, .slice none 0 0, .int .i64 0, .slice none 0 0] 55) := W0_19.out.grow hb
    have G0_20 : Hid (Blk w20 w5.heap.size #[.int .i64 0, .slice none 0 0, .int .i64 0, .slice none 0 0] 55) := G0_19.out.grow hb
    have H_20 : Hid (MR w20 GM Gr 1 Gr.length) := H_19.out.grow hb
    have V_20 : Hid (GsB w17.heap.size w20 VM Vc Vr) := V_19.out.grow hb
    have V0_20 : Hid (Blk w20 w18.heap.size #[.int .i64 0, .slice none 0 0, .int .i64 0, .slice none 0 0] 55) := V0_19.out.grow hb
    clear hb cW00 cW01 cW02 cW03 cG00 cG01 cG02 cG03 cV00 cV01 cV02 cV03
    have hq : ¬ ((1 + sumR Gr : Nat) : Int) < 0 := by omega
    have cW00 : w20.cell? ⟨w3.heap.size, 0, none⟩ = some (.int .i64 0) := (W0_20.out).cell 0
    have cW01 : w20.cell? ⟨w3.heap.size, 1, none⟩ = some (.slice none 0 0) := (W0_20.out).cell 1
    have cW02 : w20.cell? ⟨w3.heap.size, 2, none⟩ = some (.int .i64 0) := (W0_20.out).cell 2
    have cW03 : w20.cell? ⟨w3.heap.size, 3, none⟩ = some (.slice none 0 0) := (W0_20.out).cell 3
    have cG00 : w20.cell? ⟨w5.heap.size, 0, none⟩ = some (.int .i64 0) := (G0_20.out).cell 0
    have cG01 : w20.cell? ⟨w5.heap.size, 1, none⟩ = some (.slice none 0 0) := (G0_20.out).cell 1
    have cG02 : w20.cell? ⟨w5.heap.size, 2, none⟩ = some (.int .i64 0) := (G0_20.out).cell 2
    have cG03 : w20.cell? ⟨w5.heap.size, 3, none⟩ = some (.slice none 0 0) := (G0_20.out).cell 3
    have cV00 : w20.cell? ⟨w18.heap.size, 0, none⟩ = some (.int .i64 0) := (V0_20.out).cell 0
    have cV01 : w20.cell? ⟨w18.heap.size, 1, none⟩ = some (.slice none 0 0) := (V0_20.out).cell 1
    have cV02 : w20.cell? ⟨w18.heap.size, 2, none⟩ = some (.int .i64 0) := (V0_20.out).cell 2
    have cV03 : w20.cell? ⟨w18.heap.size, 3, none⟩ = some (.slice none 0 0) := (V0_20.out).cell 3
    go_wp2_with fail
    refine (heldGs_any GM 1 Gc Gr _ H_20.out GL.out GZ.out.2 (by omega) (by have := GZ.out.1; omega)).mono ?_
    rintro e w21 ⟨rfl, hb⟩
    have B21 : Hid (Below w.heap.size w w21) := grow_on B20.out hb
    have Z21 : Hid (w20.heap.size ≤ w21.heap.size) := hb.size
    have W_21 : Hid (GsB w2.heap.size w21 WM Wc Wr) := W_20.out.grow hb
    have W0_21 : Hid (Blk w21 w3.heap.size #[.int .i64 0, .slice none 0 0, .int .i64 0, .slice none 0 0] 55) := W0_20.out.grow hb
    have G0_21 : Hid (Blk w21 w5.heap.size #[.int .i64 0, .slice none 0 0, .int .i64 0, .slice none 0 0] 55) := G0_20.out.grow hb
    have H_21 : Hid (MR w21 GM Gr 1 Gr.length) := H_20.out.grow hb
    have V_21 : Hid (GsB w17.heap.size w21 VM Vc Vr) := V_20.out.grow hb
    have V0_21 : Hid (Blk w21 w18.heap.size #[.int .i64 0, .slice none 0 0, .int .i64 0, .slice none 0 0] 55) := V0_20.out.grow hb
    clear hb cW00 cW01 cW02 cW03 cG00 cG01 cG02 cG03 cV00 cV01 cV02 cV03
    rw [HM4.out] at hq ⊢
    have cW00 : w21.cell? ⟨w3.heap.size, 0, none⟩ = some (.int .i64 0) := (W0_21.out).cell 0
    have cW01 : w21.cell? ⟨w3.heap.size, 1, none⟩ = some (.slice none 0 0) := (W0_21.out).cell 1
    have cW02 : w21.cell? ⟨w3.heap.size, 2, none⟩ = some (.int .i64 0) := (W0_21.out).cell 2
    have cW03 : w21.cell? ⟨w3.heap.size, 3, none⟩ = some (.slice none 0 0) := (W0_21.out).cell 3
    have cG00 : w21.cell? ⟨w5.heap.size, 0, none⟩ = some (.int .i64 0) := (G0_21.out).cell 0
    have cG01 : w21.cell? ⟨w5.heap.size, 1, none⟩ = some (.slice none 0 0) := (G0_21.out).cell 1
    have cG02 : w21.cell? ⟨w5.heap.size, 2, none⟩ = some (.int .i64 0) := (G0_21.out).cell 2
    have cG03 : w21.cell? ⟨w5.heap.size, 3, none⟩ = some (.slice none 0 0) := (G0_21.out).cell 3
    have cV00 : w21.cell? ⟨w18.heap.size, 0, none⟩ = some (.int .i64 0) := (V0_21.out).cell 0
    have cV01 : w21.cell? ⟨w18.heap.size, 1, none⟩ = some (.slice none 0 0) := (V0_21.out).cell 1
    have cV02 : w21.cell? ⟨w18.heap.size, 2, none⟩ = some (.int .i64 0) := (V0_21.out).cell 2
    have cV03 : w21.cell? ⟨w18.heap.size, 3, none⟩ = some (.slice none 0 0) := (V0_21.out).cell 3
    go_wp2_with fail
    refine (GpY.heldB0_any m4 _).mono ?_
    rintro e w22 ⟨rfl, hb⟩
    have B22 : Hid (Below w.heap.size w w22) := grow_on B21.out hb
    have Z22 : Hid (w21.heap.size ≤ w22.heap.size) := hb.size
    have W_22 : Hid (GsB w2.heap.size w22 WM Wc Wr) := W_21.out.grow hb
    have W0_22 : Hid (Blk w22 w3.heap.size #[.int .i64 0, .slice none 0 0, .int .i64 0, .slice none 0 0] 55) := W0_21.out.grow hb
    have G0_22 : Hid (Blk w22 w5.heap.size #[.int .i64 0, .slice none 0 0, .int .i64 0, .slice none 0 0] 55) := G0_21.out.grow hb
    have H_22 : Hid (MR w22 GM Gr 1 Gr.length) := H_21.out.grow hb
    have V_22 : Hid (GsB w17.heap.size w22 VM Vc Vr) := V_21.out.grow hb
    have V0_22 : Hid (Blk w22 w18.heap.size #[.int .i64 0, .slice none 0 0, .int .i64 0, .slice none 0 0] 55) := V0_21.out.grow hb
    clear hb cW00 cW01 cW02 cW03 cG00 cG01 cG02 cG03 cV00 cV01 cV02 cV03
    have cW00 : w22.cell? ⟨w3.heap.size, 0, none⟩ = some (.int .i64 0) := (W0_22.out).cell 0
    have cW01 : w22.cell? ⟨w3.heap.size, 1, none⟩ = some (.slice none 0 0) := (W0_22.out).cell 1
    have cW02 : w22.cell? ⟨w3.heap.size, 2, none⟩ = some (.int .i64 0) := (W0_22.out).cell 2
    have cW03 : w22.cell? ⟨w3.heap.size, 3, none⟩ = some (.slice none 0 0) := (W0_22.out).cell 3
    have cG00 : w22.cell? ⟨w5.heap.size, 0, none⟩ = some (.int .i64 0) := (G0_22.out).cell 0
    have cG01 : w22.cell? ⟨w5.heap.size, 1, none⟩ = some (.slice none 0 0) := (G0_22.out).cell 1
    have cG02 : w22.cell? ⟨w5.heap.size, 2, none⟩ = some (.int .i64 0) := (G0_22.out).cell 2
    have cG03 : w22.cell? ⟨w5.heap.size, 3, none⟩ = some (.slice none 0 0) := (G0_22.out).cell 3
    have cV00 : w22.cell? ⟨w18.heap.size, 0, none⟩ = some (.int .i64 0) := (V0_22.out).cell 0
    have cV01 : w22.cell? ⟨w18.heap.size, 1, none⟩ = some (.slice none 0 0) := (V0_22.out).cell 1
    have cV02 : w22.cell? ⟨w18.heap.size, 2, none⟩ = some (.int .i64 0) := (V0_22.out).cell 2
    have cV03 : w22.cell? ⟨w18.heap.size, 3, none⟩ = some (.slice none 0 0) := (V0_22.out).cell 3
    go_wp2
    go_ret
    exact ⟨rfl, B22.out⟩
  ·
    have HE : Hid (ofI (numIs a1) l0 = (k : Int)) := he
    clear he
    have PE : Hid (∀ y ∈ (flushG l0 k a2), y.P.length ≤ 1048576 ∧ y.key.length ≤ 1048576) := flushA_each hk (each_of K0.out.2.1)
    have PL : Hid ((flushG l0 k a2).length ≤ maxLen ∧ FitsG (flushG l0 k a2)) := ⟨by have h1 := (flushA_sum l0 a2 hk).1; have h2 := K0.out.1; unfold maxLen; omega, flushA_fits F0.out hk⟩
    have PS : Hid ((flushG l0 k a2).length ≤ l0.length ∧ sumG (flushG l0 k a2) ≤ sumG l0) := flushA_sum l0 a2 hk
    have KX : Hid ((nthG l0 k).key.length ≤ maxLen ∧ (nthG l0 k).P.length ≤ maxLen ∧ FitsP (nthG l0 k).P) := ⟨(F0.out _ (nthG_mem hk)).klen, (F0.out _ (nthG_mem hk)).len, (F0.out _ (nthG_mem hk)).fits⟩
    have KS : Hid ((nthG l0 k).key.length + (nthG l0 k).P.length + sumL (nthG l0 k).P ≤ sumG l0) := sumG_nth hk
    clear hk
    go_wp2_with fail
    refine (Gps.toGs_any a0 cap0 l0 _ (R0.out.below stays_ga B1.out) K0.out.1 K0.out.2.1).mono ?_
    rintro e w2 ⟨rfl, ⟨Tr, hA, hP, hC⟩, hb⟩
    have T_2 : Hid (GsB w1.heap.size w2 w1.heap.size l0.length Tr) := hA
    have TP : Hid (grs Tr = l0) := hP
    have TC : Hid (CapsG Tr) := hC
    have TR : Hid (∀ k, blksG w1.heap.size Tr k → w1.heap.size ≤ k ∧ k < w2.heap.size) := rngG hA
    clear hA hP hC
    have B2 : Hid (Below w.heap.size w w2) := grow_on B1.out hb
    have Z2 : Hid (w1.heap.size ≤ w2.heap.size) := hb.size
    clear hb
    go_wp2_with fail
    refine (GpY.specF_some _ _ l0 a1 a2 k _ (rdN T_2.out TP.out TC.out) K0.out.1 CAP.out N0.out HE.out).mono ?_
    rintro e w3 ⟨⟨WM, Wc, Wr, WK, Wd, WS, Wf, We, Wq, rfl, hA, hP, hB, hQ⟩, hb⟩
    have W_3 : Hid (GsB w2.heap.size w3 WM Wc Wr) := hA
    have WP : Hid (grs Wr = (flushG l0 k a2)) := hP
    have WR : Hid (∀ k, blksG WM Wr k → w2.heap.size ≤ k ∧ k < w3.heap.size) := rngG hA
    have Wb_3 : Hid (GB w2.heap.size w3 WK (nthG l0 k).key WS Wf Wq) := hB
    have WQ : Hid (pals Wq = (nthG l0 k).P) := hQ
    have WbR : Hid (∀ k, gblks WK WS Wq k → w2.heap.size ≤ k ∧ k < w3.heap.size) := hB.rng
    clear hA hP hB hQ
    have B3 : Hid (Below w.heap.size w w3) := grow_on B2.out hb
    have Z3 : Hid (w2.heap.size ≤ w3.heap.size) := hb.size
    have T_3 : Hid (GsB w1.heap.size w3 w1.heap.size l0.length Tr) := T_2.out.grow hb
    clear hb
    go_wp2_with fail
    refine (Gps.toGs_any a0 cap0 l0 _ (R0.out.below stays_ga (grow_on B3.out (Go.Joins.below_alloc1 w3 _))) K0.out.1 K0.out.2.1).mono ?_
    rintro e w4 ⟨rfl, ⟨Xr, hA, hP, hC⟩, hb⟩
    have X_4 : Hid (GsB (w3.heap.size + 1) w4 (w3.heap.size + 1) l0.length Xr) := by show GsB _ _ _ _ _; simpa using hA
    have XP : Hid (grs Xr = l0) := hP
    have XC : Hid (CapsG Xr) := hC
    have XR : Hid (∀ k, blksG (w3.heap.size + 1) Xr k → w3.heap.size + 1 ≤ k ∧ k < w4.heap.size) := rngG X_4.out
    clear hA hP hC
    have W0_4 : Hid (Blk w4 w3.heap.size #[.int .i64 (nthG l0 k).n, .slice (some ⟨WK, 0, none⟩) (nthG l0 k).key.length Wd, .int .i64 a2, .slice (some ⟨WS, Wf, none⟩) Wq.length We] 55) := (Blk.new _ _ _).grow hb
    have U_W0 : Hid (w3.heap.size ≤ w3.heap.size ∧ w3.heap.size < w4.heap.size) := ⟨by omega, W0_4.out.lt⟩
    replace hb := grow_on (Go.Joins.below_alloc1 w3 _) hb
    have B4 : Hid (Below w.heap.size w w4) := grow_on B3.out hb
    have Z4 : Hid (w3.heap.size ≤ w4.heap.size) := hb.size
    have W_4 : Hid (GsB w2.heap.size w4 WM Wc Wr) := W_3.out.grow hb
    have Wb_4 : Hid (GB w2.heap.size w4 WK (nthG l0 k).key WS Wf Wq) := Wb_3.out.grow hb
    clear hb
    have cW00 : w4.cell? ⟨w3.heap.size, 0, none⟩ = some (.int .i64 (nthG l0 k).n) := (W0_4.out).cell 0
    have cW01 : w4.cell? ⟨w3.heap.size, 1, none⟩ = some (.slice (some ⟨WK, 0, none⟩) (nthG l0 k).key.length Wd) := (W0_4.out).cell 1
    have cW02 : w4.cell? ⟨w3.heap.size, 2, none⟩ = some (.int .i64 a2) := (W0_4.out).cell 2
    have cW03 : w4.cell? ⟨w3.heap.size, 3, none⟩ = some (.slice (some ⟨WS, Wf, none⟩) Wq.length We) := (W0_4.out).cell 3
    go_wp2_with fail
    refine (GpY.implF_some _ _ l0 a1 a2 k _ (rdN X_4.out XP.out XC.out) K0.out.1 CAP.out N0.out HE.out).mono ?_
    rintro e w5 ⟨⟨GM, Gc, Gr, GK, Gd, GS, Gf, Ge, Gq, rfl, hA, hP, hB, hQ, hD⟩, hb⟩
    have G_5 : Hid (GsB w4.heap.size w5 GM Gc Gr) := hA
    have GP : Hid (grs Gr = (flushG l0 k a2)) := hP
    have GR : Hid (∀ k, blksG GM Gr k → w4.heap.size ≤ k ∧ k < w5.heap.size) := rngG hA
    have Gb_5 : Hid (GB w4.heap.size w5 GK (nthG l0 k).key GS Gf Gq) := hB
    have GQ : Hid (pals Gq = (nthG l0 k).P) := hQ
    have GbR : Hid (∀ k, gblks GK GS Gq k → w4.heap.size ≤ k ∧ k < w5.heap.size) := hB.rng
    have GD : Hid (∀ q, blksG GM Gr q → ¬ gblks GK GS Gq q) := hD
    have GL : Hid (∀ x ∈ Gr, x.rs.length ≤ 2000000 ∧ x.key.length ≤ 1048576 ∧ ∀ y ∈ x.rs, y.2.2.l.length ≤ 1048576) := rowsG (n := 1048576) hA (by rw [hP]; exact PE.out) (by omega)
    have GbL : Hid (∀ x ∈ Gq, x.2.2.l.length ≤ 1048576) := hB.len
    clear hA hP hB hQ hD
    have B5 : Hid (Below w.heap.size w w5) := grow_on B4.out hb
    have Z5 : Hid (w4.heap.size ≤ w5.heap.size) := hb.size
    have W_5 : Hid (GsB w2.heap.size w5 WM Wc Wr) := W_4.out.grow hb
    have Wb_5 : Hid (GB w2.heap.size w5 WK (nthG l0 k).key WS Wf Wq) := Wb_4.out.grow hb
    have W0_5 : Hid (Blk w5 w3.heap.size #[.int .i64 (nthG l0 k).n, .slice (some ⟨WK, 0, none⟩) (nthG l0 k).key.length Wd, .int .i64 a2, .slice (some ⟨WS, Wf, none⟩) Wq.length We] 55) := W0_4.out.grow hb
    have X_5 : Hid (GsB (w3.heap.size + 1) w5 (w3.heap.size + 1) l0.length Xr) := X_4.out.grow hb
    clear hb cW00 cW01 cW02 cW03
    have cW00 : (w5.alloc (.cells #[.int .i64 (nthG l0 k).n, .slice (some ⟨GK, 0, none⟩) (nthG l0 k).key.length Gd, .int .i64 a2, .slice (some ⟨GS, Gf, none⟩) Gq.length Ge] 55)).cell? ⟨w3.heap.size, 0, none⟩ = some (.int .i64 (nthG l0 k).n) := ((W0_5.out.alloc _)).cell 0
    have cW01 : (w5.alloc (.cells #[.int .i64 (nthG l0 k).n, .slice (some ⟨GK, 0, none⟩) (nthG l0 k).key.length Gd, .int .i64 a2, .slice (some ⟨GS, Gf, none⟩) Gq.length Ge] 55)).cell? ⟨w3.heap.size, 1, none⟩ = some (.slice (some ⟨WK, 0, none⟩) (nthG l0 k).key.length Wd) := ((W0_5.out.alloc _)).cell 1
    have cW02 : (w5.alloc (.cells #[.int .i64 (nthG l0 k).n, .slice (some ⟨GK, 0, none⟩) (nthG l0 k).key.length Gd, .int .i64 a2, .slice (some ⟨GS, Gf, none⟩) Gq.length Ge] 55)).cell? ⟨w3.heap.size, 2, none⟩ = some (.int .i64 a2) := ((W0_5.out.alloc _)).cell 2
    have cW03 : (w5.alloc (.cells #[.int .i64 (nthG l0 k).n, .slice (some ⟨GK, 0, none⟩) (nthG l0 k).key.length Gd, .int .i64 a2, .slice (some ⟨GS, Gf, none⟩) Gq.length Ge] 55)).cell? ⟨w3.heap.size, 3, none⟩ = some (.slice (some ⟨WS, Wf, none⟩) Wq.length We) := ((W0_5.out.alloc _)).cell 3
    go_wp2_with fail
    refine (eqL_any _ _ _ _ _ _ _ _ Gr Wr _ _ (G_5.out.grow (Go.Joins.below_alloc1 w5 _)) (W_5.out.grow (Go.Joins.below_alloc1 w5 _)) GP.out WP.out PL.out.1 PL.out.2).mono ?_
    rintro e w6 ⟨rfl, hb⟩
    have G0_6 : Hid (Blk w6 w5.heap.size #[.int .i64 (nthG l0 k).n, .slice (some ⟨GK, 0, none⟩) (nthG l0 k).key.length Gd, .int .i64 a2, .slice (some ⟨GS, Gf, none⟩) Gq.length Ge] 55) := (Blk.new _ _ _).grow hb
    have U_G0 : Hid (w5.heap.size ≤ w5.heap.size ∧ w5.heap.size < w6.heap.size) := ⟨by omega, G0_6.out.lt⟩
    replace hb := grow_on (Go.Joins.below_alloc1 w5 _) hb
    have B6 : Hid (Below w.heap.size w w6) := grow_on B5.out hb
    have Z6 : Hid (w5.heap.size ≤ w6.heap.size) := hb.size
    have W_6 : Hid (GsB w2.heap.size w6 WM Wc Wr) := W_5.out.grow hb
    have Wb_6 : Hid (GB w2.heap.size w6 WK (nthG l0 k).key WS Wf Wq) := Wb_5.out.grow hb
    have W0_6 : Hid (Blk w6 w3.heap.size #[.int .i64 (nthG l0 k).n, .slice (some ⟨WK, 0, none⟩) (nthG l0 k).key.length Wd, .int .i64 a2, .slice (some ⟨WS, Wf, none⟩) Wq.length We] 55) := W0_5.out.grow hb
    have X_6 : Hid (GsB (w3.heap.size + 1) w6 (w3.heap.size + 1) l0.length Xr) := X_5.out.grow hb
    have G_6 : Hid (GsB w4.heap.size w6 GM Gc Gr) := G_5.out.grow hb
    have Gb_6 : Hid (GB w4.heap.size w6 GK (nthG l0 k).key GS Gf Gq) := Gb_5.out.grow hb
    clear hb cW00 cW01 cW02 cW03
    have cW00 : w6.cell? ⟨w3.heap.size, 0, none⟩ = some (.int .i64 (nthG l0 k).n) := (W0_6.out).cell 0
    have cW01 : w6.cell? ⟨w3.heap.size, 1, none⟩ = some (.slice (some ⟨WK, 0, none⟩) (nthG l0 k).key.length Wd) := (W0_6.out).cell 1
    have cW02 : w6.cell? ⟨w3.heap.size, 2, none⟩ = some (.int .i64 a2) := (W0_6.out).cell 2
    have cW03 : w6.cell? ⟨w3.heap.size, 3, none⟩ = some (.slice (some ⟨WS, Wf, none⟩) Wq.length We) := (W0_6.out).cell 3
    have cG00 : w6.cell? ⟨w5.heap.size, 0, none⟩ = some (.int .i64 (nthG l0 k).n) := (G0_6.out).cell 0
    have cG01 : w6.cell? ⟨w5.heap.size, 1, none⟩ = some (.slice (some ⟨GK, 0, none⟩) (nthG l0 k).key.length Gd) := (G0_6.out).cell 1
    have cG02 : w6.cell? ⟨w5.heap.size, 2, none⟩ = some (.int .i64 a2) := (G0_6.out).cell 2
    have cG03 : w6.cell? ⟨w5.heap.size, 3, none⟩ = some (.slice (some ⟨GS, Gf, none⟩) Gq.length Ge) := (G0_6.out).cell 3
    go_wp2_with fail
    refine (eqBt_any (nthG l0 k).n a2 _ _ _ _ (nthG l0 k).key _ _ _ _ Gq Wq (nthG l0 k).P _ (Gb_6.out.key.rd) (Wb_6.out.key.rd) KX.out.1 (Gb_6.out.row.rd) (Wb_6.out.row.rd) GQ.out WQ.out KX.out.2.1 KX.out.2.2).mono ?_
    rintro e w7 ⟨rfl, hb⟩
    have B7 : Hid (Below w.heap.size w w7) := grow_on B6.out hb
    have Z7 : Hid (w6.heap.size ≤ w7.heap.size) := hb.size
    have W_7 : Hid (GsB w2.heap.size w7 WM Wc Wr) := W_6.out.grow hb
    have Wb_7 : Hid (GB w2.heap.size w7 WK (nthG l0 k).key WS Wf Wq) := Wb_6.out.grow hb
    have W0_7 : Hid (Blk w7 w3.heap.size #[.int .i64 (nthG l0 k).n, .slice (some ⟨WK, 0, none⟩) (nthG l0 k).key.length Wd, .int .i64 a2, .slice (some ⟨WS, Wf, none⟩) Wq.length We] 55) := W0_6.out.grow hb
    have X_7 : Hid (GsB (w3.heap.size + 1) w7 (w3.heap.size + 1) l0.length Xr) := X_6.out.grow hb
    have G_7 : Hid (GsB w4.heap.size w7 GM Gc Gr) := G_6.out.grow hb
    have Gb_7 : Hid (GB w4.heap.size w7 GK (nthG l0 k).key GS Gf Gq) := Gb_6.out.grow hb
    have G0_7 : Hid (Blk w7 w5.heap.size #[.int .i64 (nthG l0 k).n, .slice (some ⟨GK, 0, none⟩) (nthG l0 k).key.length Gd, .int .i64 a2, .slice (some ⟨GS, Gf, none⟩) Gq.length Ge] 55) := G0_6.out.grow hb
    clear hb cW00 cW01 cW02 cW03 cG00 cG01 cG02 cG03
    have cW00 : w7.cell? ⟨w3.heap.size, 0, none⟩ = some (.int .i64 (nthG l0 k).n) := (W0_7.out).cell 0
    have cW01 : w7.cell? ⟨w3.heap.size, 1, none⟩ = some (.slice (some ⟨WK, 0, none⟩) (nthG l0 k).key.length Wd) := (W0_7.out).cell 1
    have cW02 : w7.cell? ⟨w3.heap.size, 2, none⟩ = some (.int .i64 a2) := (W0_7.out).cell 2
    have cW03 : w7.cell? ⟨w3.heap.size, 3, none⟩ = some (.slice (some ⟨WS, Wf, none⟩) Wq.length We) := (W0_7.out).cell 3
    have cG00 : w7.cell? ⟨w5.heap.size, 0, none⟩ = some (.int .i64 (nthG l0 k).n) := (G0_7.out).cell 0
    have cG01 : w7.cell? ⟨w5.heap.size, 1, none⟩ = some (.slice (some ⟨GK, 0, none⟩) (nthG l0 k).key.length Gd) := (G0_7.out).cell 1
    have cG02 : w7.cell? ⟨w5.heap.size, 2, none⟩ = some (.int .i64 a2) := (G0_7.out).cell 2
    have cG03 : w7.cell? ⟨w5.heap.size, 3, none⟩ = some (.slice (some ⟨GS, Gf, none⟩) Gq.length Ge) := (G0_7.out).cell 3
    go_wp2_with fail
    refine (Gps.toGs_any a0 cap0 l0 _ (R0.out.below stays_ga B7.out) K0.out.1 K0.out.2.1).mono ?_
    rintro e w8 ⟨rfl, ⟨Er, hA, hP, hC⟩, hb⟩
    have E_8 : Hid (GsB w7.heap.size w8 w7.heap.size l0.length Er) := hA
    have EP : Hid (grs Er = l0) := hP
    have EC : Hid (CapsG Er) := hC
    have ER : Hid (∀ k, blksG w7.heap.size Er k → w7.heap.size ≤ k ∧ k < w8.heap.size) := rngG hA
    clear hA hP hC
    have B8 : Hid (Below w.heap.size w w8) := grow_on B7.out hb
    have Z8 : Hid (w7.heap.size ≤ w8.heap.size) := hb.size
    have W_8 : Hid (GsB w2.heap.size w8 WM Wc Wr) := W_7.out.grow hb
    have Wb_8 : Hid (GB w2.heap.size w8 WK (nthG l0 k).key WS Wf Wq) := Wb_7.out.grow hb
    have W0_8 : Hid (Blk w8 w3.heap.size #[.int .i64 (nthG l0 k).n, .slice (some ⟨WK, 0, none⟩) (nthG l0 k).key.length Wd, .int .i64 a2, .slice (some ⟨WS, Wf, none⟩) Wq.length We] 55) := W0_7.out.grow hb
    have X_8 : Hid (GsB (w3.heap.size + 1) w8 (w3.heap.size + 1) l0.length Xr) := X_7.out.grow hb
    have G_8 : Hid (GsB w4.heap.size w8 GM Gc Gr) := G_7.out.grow hb
    have Gb_8 : Hid (GB w4.heap.size w8 GK (nthG l0 k).key GS Gf Gq) := Gb_7.out.grow hb
    have G0_8 : Hid (Blk w8 w5.heap.size #[.int .i64 (nthG l0 k).n, .slice (some ⟨GK, 0, none⟩) (nthG l0 k).key.length Gd, .int .i64 a2, .slice (some ⟨GS, Gf, none⟩) Gq.length Ge] 55) := G0_7.out.grow hb
    clear hb cW00 cW01 cW02 cW03 cG00 cG01 cG02 cG03
    have cW00 : w8.cell? ⟨w3.heap.size, 0, none⟩ = some (.int .i64 (nthG l0 k).n) := (W0_8.out).cell 0
    have cW01 : w8.cell? ⟨w3.heap.size, 1, none⟩ = some (.slice (some ⟨WK, 0, none⟩) (nthG l0 k).key.length Wd) := (W0_8.out).cell 1
    have cW02 : w8.cell? ⟨w3.heap.size, 2, none⟩ = some (.int .i64 a2) := (W0_8.out).cell 2
    have cW03 : w8.cell? ⟨w3.heap.size, 3, none⟩ = some (.slice (some ⟨WS, Wf, none⟩) Wq.length We) := (W0_8.out).cell 3
    have cG00 : w8.cell? ⟨w5.heap.size, 0, none⟩ = some (.int .i64 (nthG l0 k).n) := (G0_8.out).cell 0
    have cG01 : w8.cell? ⟨w5.heap.size, 1, none⟩ = some (.slice (some ⟨GK, 0, none⟩) (nthG l0 k).key.length Gd) := (G0_8.out).cell 1
    have cG02 : w8.cell? ⟨w5.heap.size, 2, none⟩ = some (.int .i64 a2) := (G0_8.out).cell 2
    have cG03 : w8.cell? ⟨w5.heap.size, 3, none⟩ = some (.slice (some ⟨GS, Gf, none⟩) Gq.length Ge) := (G0_8.out).cell 3
    go_wp2_with fail
    refine (Gps.eqGs_any _ _ _ _ l0 _ (rdA X_8.out XP.out) (rdA E_8.out EP.out) M0.out F0.out).mono ?_
    rintro e w9 ⟨rfl, hb⟩
    have B9 : Hid (Below w.heap.size w w9) := grow_on B8.out hb
    have Z9 : Hid (w8.heap.size ≤ w9.heap.size) := hb.size
    have W_9 : Hid (GsB w2.heap.size w9 WM Wc Wr) := W_8.out.grow hb
    have Wb_9 : Hid (GB w2.heap.size w9 WK (nthG l0 k).key WS Wf Wq) := Wb_8.out.grow hb
    have W0_9 : Hid (Blk w9 w3.heap.size #[.int .i64 (nthG l0 k).n, .slice (some ⟨WK, 0, none⟩) (nthG l0 k).key.length Wd, .int .i64 a2, .slice (some ⟨WS, Wf, none⟩) Wq.length We] 55) := W0_8.out.grow hb
    have X_9 : Hid (GsB (w3.heap.size + 1) w9 (w3.heap.size + 1) l0.length Xr) := X_8.out.grow hb
    have G_9 : Hid (GsB w4.heap.size w9 GM Gc Gr) := G_8.out.grow hb
    have Gb_9 : Hid (GB w4.heap.size w9 GK (nthG l0 k).key GS Gf Gq) := Gb_8.out.grow hb
    have G0_9 : Hid (Blk w9 w5.heap.size #[.int .i64 (nthG l0 k).n, .slice (some ⟨GK, 0, none⟩) (nthG l0 k).key.length Gd, .int .i64 a2, .slice (some ⟨GS, Gf, none⟩) Gq.length Ge] 55) := G0_8.out.grow hb
    have E_9 : Hid (GsB w7.heap.size w9 w7.heap.size l0.length Er) := E_8.out.grow hb
    clear hb cW00 cW01 cW02 cW03 cG00 cG01 cG02 cG03
    have XL : Hid (Xr.length = l0.length) := len_g XP.out
    have XS : Hid (1 + sumR Xr ≤ 5000000) := by have h1 := sumR_grs Xr; rw [XP.out, XL.out] at h1; have h2 := K0.out.2.2; show _ ≤ _; omega
    have hXM : Hid (Calls Try.prog 28 #[.slice (some ⟨(w3.heap.size + 1), 0, none⟩) l0.length l0.length, .int .i64 1] w9 fun e w' => e = .returned (.int .i64 ((1 + sumR Xr : Nat) : Int)) ∧ Only (blksG (w3.heap.size + 1) Xr) w9 w') := by
      have h := (markGs_any (w3.heap.size + 1) l0.length 1 _ l0.length Xr w9 X_9.out (by rw [XL.out]; have := K0.out.1; omega) (fun x hx => by have h := rowsG (n := 1048576) X_9.out (by rw [XP.out]; exact each_of K0.out.2.1) (by omega) x hx; exact ⟨h.1, h.2.1⟩) (by omega) (by have := XS.out; omega)).mono (fun e w' h => (⟨h.1, h.2.2⟩ : e = .returned (.int .i64 ((1 + sumR Xr : Nat) : Int)) ∧ Only (blksG (w3.heap.size + 1) Xr) w9 w'))
      rw [XL.out] at h
      exact h
    have cW00 : w9.cell? ⟨w3.heap.size, 0, none⟩ = some (.int .i64 (nthG l0 k).n) := (W0_9.out).cell 0
    have cW01 : w9.cell? ⟨w3.heap.size, 1, none⟩ = some (.slice (some ⟨WK, 0, none⟩) (nthG l0 k).key.length Wd) := (W0_9.out).cell 1
    have cW02 : w9.cell? ⟨w3.heap.size, 2, none⟩ = some (.int .i64 a2) := (W0_9.out).cell 2
    have cW03 : w9.cell? ⟨w3.heap.size, 3, none⟩ = some (.slice (some ⟨WS, Wf, none⟩) Wq.length We) := (W0_9.out).cell 3
    have cG00 : w9.cell? ⟨w5.heap.size, 0, none⟩ = some (.int .i64 (nthG l0 k).n) := (G0_9.out).cell 0
    have cG01 : w9.cell? ⟨w5.heap.size, 1, none⟩ = some (.slice (some ⟨GK, 0, none⟩) (nthG l0 k).key.length Gd) := (G0_9.out).cell 1
    have cG02 : w9.cell? ⟨w5.heap.size, 2, none⟩ = some (.int .i64 a2) := (G0_9.out).cell 2
    have cG03 : w9.cell? ⟨w5.heap.size, 3, none⟩ = some (.slice (some ⟨GS, Gf, none⟩) Gq.length Ge) := (G0_9.out).cell 3
    go_wp2_with fail
    refine (hXM.out).mono ?_
    rintro e w10 ⟨rfl, ho⟩
    have B10 : Hid (Below w.heap.size w w10) := B9.out.trans (ho.low (fun k hk => by have hx := XR.out k hk; have hw := B3.out.size; have h0 := Z1.out; have h1 := Z2.out; have h2 := Z3.out; have h3 := Z4.out; have h4 := Z5.out; have h5 := Z6.out; have h6 := Z7.out; have h7 := Z8.out; have h8 := Z9.out; have h9 := U_W0.out; have h10 := U_G0.out; omega) B9.out.size)
    have Z10 : Hid (w9.heap.size ≤ w10.heap.size) := ho.size
    have W_10 : Hid (GsB w2.heap.size w10 WM Wc Wr) := gs_only W_9.out ho (fun k hk hs => by have hx := XR.out k hs; have hy := WR.out k hk; have h0 := Z1.out; have h1 := Z2.out; have h2 := Z3.out; have h3 := Z4.out; have h4 := Z5.out; have h5 := Z6.out; have h6 := Z7.out; have h7 := Z8.out; have h8 := Z9.out; have h9 := Z10.out; have h10 := U_W0.out; have h11 := U_G0.out; omega)
    have Wb_10 : Hid (GB w2.heap.size w10 WK (nthG l0 k).key WS Wf Wq) := Wb_9.out.only ho (fun k hk hs => by have hx := XR.out k hs; have hy := WbR.out k hk; have h0 := Z1.out; have h1 := Z2.out; have h2 := Z3.out; have h3 := Z4.out; have h4 := Z5.out; have h5 := Z6.out; have h6 := Z7.out; have h7 := Z8.out; have h8 := Z9.out; have h9 := Z10.out; have h10 := U_W0.out; have h11 := U_G0.out; omega)
    have W0_10 : Hid (Blk w10 w3.heap.size #[.int .i64 (nthG l0 k).n, .slice (some ⟨WK, 0, none⟩) (nthG l0 k).key.length Wd, .int .i64 a2, .slice (some ⟨WS, Wf, none⟩) Wq.length We] 55) := ho.blk W0_9.out (fun hs => by have hx := XR.out _ hs; have h0 := Z1.out; have h1 := Z2.out; have h2 := Z3.out; have h3 := Z4.out; have h4 := Z5.out; have h5 := Z6.out; have h6 := Z7.out; have h7 := Z8.out; have h8 := Z9.out; have h9 := Z10.out; have h10 := U_W0.out; have h11 := U_G0.out; omega)
    have G_10 : Hid (GsB w4.heap.size w10 GM Gc Gr) := gs_only G_9.out ho (fun k hk hs => by have hx := XR.out k hs; have hy := GR.out k hk; have h0 := Z1.out; have h1 := Z2.out; have h2 := Z3.out; have h3 := Z4.out; have h4 := Z5.out; have h5 := Z6.out; have h6 := Z7.out; have h7 := Z8.out; have h8 := Z9.out; have h9 := Z10.out; have h10 := U_W0.out; have h11 := U_G0.out; omega)
    have Gb_10 : Hid (GB w4.heap.size w10 GK (nthG l0 k).key GS Gf Gq) := Gb_9.out.only ho (fun k hk hs => by have hx := XR.out k hs; have hy := GbR.out k hk; have h0 := Z1.out; have h1 := Z2.out; have h2 := Z3.out; have h3 := Z4.out; have h4 := Z5.out; have h5 := Z6.out; have h6 := Z7.out; have h7 := Z8.out; have h8 := Z9.out; have h9 := Z10.out; have h10 := U_W0.out; have h11 := U_G0.out; omega)
    have G0_10 : Hid (Blk w10 w5.heap.size #[.int .i64 (nthG l0 k).n, .slice (some ⟨GK, 0, none⟩) (nthG l0 k).key.length Gd, .int .i64 a2, .slice (some ⟨GS, Gf, none⟩) Gq.length Ge] 55) := ho.blk G0_9.out (fun hs => by have hx := XR.out _ hs; have h0 := Z1.out; have h1 := Z2.out; have h2 := Z3.out; have h3 := Z4.out; have h4 := Z5.out; have h5 := Z6.out; have h6 := Z7.out; have h7 := Z8.out; have h8 := Z9.out; have h9 := Z10.out; have h10 := U_W0.out; have h11 := U_G0.out; omega)
    clear ho cW00 cW01 cW02 cW03 cG00 cG01 cG02 cG03
    have hq : ¬ ((1 + sumR Xr : Nat) : Int) < 0 := by omega
    generalize 1 + sumR Xr = m1 at hq ⊢
    have cW00 : w10.cell? ⟨w3.heap.size, 0, none⟩ = some (.int .i64 (nthG l0 k).n) := (W0_10.out).cell 0
    have cW01 : w10.cell? ⟨w3.heap.size, 1, none⟩ = some (.slice (some ⟨WK, 0, none⟩) (nthG l0 k).key.length Wd) := (W0_10.out).cell 1
    have cW02 : w10.cell? ⟨w3.heap.size, 2, none⟩ = some (.int .i64 a2) := (W0_10.out).cell 2
    have cW03 : w10.cell? ⟨w3.heap.size, 3, none⟩ = some (.slice (some ⟨WS, Wf, none⟩) Wq.length We) := (W0_10.out).cell 3
    have cG00 : w10.cell? ⟨w5.heap.size, 0, none⟩ = some (.int .i64 (nthG l0 k).n) := (G0_10.out).cell 0
    have cG01 : w10.cell? ⟨w5.heap.size, 1, none⟩ = some (.slice (some ⟨GK, 0, none⟩) (nthG l0 k).key.length Gd) := (G0_10.out).cell 1
    have cG02 : w10.cell? ⟨w5.heap.size, 2, none⟩ = some (.int .i64 a2) := (G0_10.out).cell 2
    have cG03 : w10.cell? ⟨w5.heap.size, 3, none⟩ = some (.slice (some ⟨GS, Gf, none⟩) Gq.length Ge) := (G0_10.out).cell 3
    go_wp2_with fail
    refine (eqL_any _ _ _ _ _ _ _ _ Gr Wr _ _ G_10.out W_10.out GP.out WP.out PL.out.1 PL.out.2).mono ?_
    rintro e w11 ⟨rfl, hb⟩
    have B11 : Hid (Below w.heap.size w w11) := grow_on B10.out hb
    have Z11 : Hid (w10.heap.size ≤ w11.heap.size) := hb.size
    have W_11 : Hid (GsB w2.heap.size w11 WM Wc Wr) := W_10.out.grow hb
    have Wb_11 : Hid (GB w2.heap.size w11 WK (nthG l0 k).key WS Wf Wq) := Wb_10.out.grow hb
    have W0_11 : Hid (Blk w11 w3.heap.size #[.int .i64 (nthG l0 k).n, .slice (some ⟨WK, 0, none⟩) (nthG l0 k).key.length Wd, .int .i64 a2, .slice (some ⟨WS, Wf, none⟩) Wq.length We] 55) := W0_10.out.grow hb
    have G_11 : Hid (GsB w4.heap.size w11 GM Gc Gr) := G_10.out.grow hb
    have Gb_11 : Hid (GB w4.heap.size w11 GK (nthG l0 k).key GS Gf Gq) := Gb_10.out.grow hb
    have G0_11 : Hid (Blk w11 w5.heap.size #[.int .i64 (nthG l0 k).n, .slice (some ⟨GK, 0, none⟩) (nthG l0 k).key.length Gd, .int .i64 a2, .slice (some ⟨GS, Gf, none⟩) Gq.length Ge] 55) := G0_10.out.grow hb
    clear hb cW00 cW01 cW02 cW03 cG00 cG01 cG02 cG03
    have cW00 : w11.cell? ⟨w3.heap.size, 0, none⟩ = some (.int .i64 (nthG l0 k).n) := (W0_11.out).cell 0
    have cW01 : w11.cell? ⟨w3.heap.size, 1, none⟩ = some (.slice (some ⟨WK, 0, none⟩) (nthG l0 k).key.length Wd) := (W0_11.out).cell 1
    have cW02 : w11.cell? ⟨w3.heap.size, 2, none⟩ = some (.int .i64 a2) := (W0_11.out).cell 2
    have cW03 : w11.cell? ⟨w3.heap.size, 3, none⟩ = some (.slice (some ⟨WS, Wf, none⟩) Wq.length We) := (W0_11.out).cell 3
    have cG00 : w11.cell? ⟨w5.heap.size, 0, none⟩ = some (.int .i64 (nthG l0 k).n) := (G0_11.out).cell 0
    have cG01 : w11.cell? ⟨w5.heap.size, 1, none⟩ = some (.slice (some ⟨GK, 0, none⟩) (nthG l0 k).key.length Gd) := (G0_11.out).cell 1
    have cG02 : w11.cell? ⟨w5.heap.size, 2, none⟩ = some (.int .i64 a2) := (G0_11.out).cell 2
    have cG03 : w11.cell? ⟨w5.heap.size, 3, none⟩ = some (.slice (some ⟨GS, Gf, none⟩) Gq.length Ge) := (G0_11.out).cell 3
    go_wp2_with fail
    refine (eqBt_any (nthG l0 k).n a2 _ _ _ _ (nthG l0 k).key _ _ _ _ Gq Wq (nthG l0 k).P _ (Gb_11.out.key.rd) (Wb_11.out.key.rd) KX.out.1 (Gb_11.out.row.rd) (Wb_11.out.row.rd) GQ.out WQ.out KX.out.2.1 KX.out.2.2).mono ?_
    rintro e w12 ⟨rfl, hb⟩
    have B12 : Hid (Below w.heap.size w w12) := grow_on B11.out hb
    have Z12 : Hid (w11.heap.size ≤ w12.heap.size) := hb.size
    have W_12 : Hid (GsB w2.heap.size w12 WM Wc Wr) := W_11.out.grow hb
    have Wb_12 : Hid (GB w2.heap.size w12 WK (nthG l0 k).key WS Wf Wq) := Wb_11.out.grow hb
    have W0_12 : Hid (Blk w12 w3.heap.size #[.int .i64 (nthG l0 k).n, .slice (some ⟨WK, 0, none⟩) (nthG l0 k).key.length Wd, .int .i64 a2, .slice (some ⟨WS, Wf, none⟩) Wq.length We] 55) := W0_11.out.grow hb
    have G_12 : Hid (GsB w4.heap.size w12 GM Gc Gr) := G_11.out.grow hb
    have Gb_12 : Hid (GB w4.heap.size w12 GK (nthG l0 k).key GS Gf Gq) := Gb_11.out.grow hb
    have G0_12 : Hid (Blk w12 w5.heap.size #[.int .i64 (nthG l0 k).n, .slice (some ⟨GK, 0, none⟩) (nthG l0 k).key.length Gd, .int .i64 a2, .slice (some ⟨GS, Gf, none⟩) Gq.length Ge] 55) := G0_11.out.grow hb
    clear hb cW00 cW01 cW02 cW03 cG00 cG01 cG02 cG03
    clear hq
    have GZ : Hid (1 + sumR Gr ≤ 4000000 ∧ Gr.length ≤ 2000000) := by have h1 := sumR_grs Gr; have h2 := len_g GP.out; rw [GP.out, h2] at h1; have h3 := PS.out; have h4 := K0.out.2.2; have h5 := K0.out.1; exact ⟨by omega, by omega⟩
    have cW00 : w12.cell? ⟨w3.heap.size, 0, none⟩ = some (.int .i64 (nthG l0 k).n) := (W0_12.out).cell 0
    have cW01 : w12.cell? ⟨w3.heap.size, 1, none⟩ = some (.slice (some ⟨WK, 0, none⟩) (nthG l0 k).key.length Wd) := (W0_12.out).cell 1
    have cW02 : w12.cell? ⟨w3.heap.size, 2, none⟩ = some (.int .i64 a2) := (W0_12.out).cell 2
    have cW03 : w12.cell? ⟨w3.heap.size, 3, none⟩ = some (.slice (some ⟨WS, Wf, none⟩) Wq.length We) := (W0_12.out).cell 3
    have cG00 : w12.cell? ⟨w5.heap.size, 0, none⟩ = some (.int .i64 (nthG l0 k).n) := (G0_12.out).cell 0
    have cG01 : w12.cell? ⟨w5.heap.size, 1, none⟩ = some (.slice (some ⟨GK, 0, none⟩) (nthG l0 k).key.length Gd) := (G0_12.out).cell 1
    have cG02 : w12.cell? ⟨w5.heap.size, 2, none⟩ = some (.int .i64 a2) := (G0_12.out).cell 2
    have cG03 : w12.cell? ⟨w5.heap.size, 3, none⟩ = some (.slice (some ⟨GS, Gf, none⟩) Gq.length Ge) := (G0_12.out).cell 3
    go_wp2_with fail
    refine (markGs_any GM Gc 1 _ Gc Gr w12 G_12.out GZ.out.2 (fun x hx => ⟨(GL.out x hx).1, (GL.out x hx).2.1⟩) (by omega) (by have := GZ.out.1; omega)).mono ?_
    rintro e w13 ⟨rfl, hm, ho⟩
    have B13 : Hid (Below w.heap.size w w13) := B12.out.trans (ho.low (fun k hk => by have hx := GR.out k hk; have hw := B4.out.size; have h0 := Z1.out; have h1 := Z2.out; have h2 := Z3.out; have h3 := Z4.out; have h4 := Z5.out; have h5 := Z6.out; have h6 := Z7.out; have h7 := Z8.out; have h8 := Z9.out; have h9 := Z10.out; have h10 := Z11.out; have h11 := Z12.out; have h12 := U_W0.out; have h13 := U_G0.out; omega) B12.out.size)
    have Z13 : Hid (w12.heap.size ≤ w13.heap.size) := ho.size
    have W_13 : Hid (GsB w2.heap.size w13 WM Wc Wr) := gs_only W_12.out ho (fun k hk hs => by have hx := GR.out k hs; have hy := WR.out k hk; have h0 := Z1.out; have h1 := Z2.out; have h2 := Z3.out; have h3 := Z4.out; have h4 := Z5.out; have h5 := Z6.out; have h6 := Z7.out; have h7 := Z8.out; have h8 := Z9.out; have h9 := Z10.out; have h10 := Z11.out; have h11 := Z12.out; have h12 := Z13.out; have h13 := U_W0.out; have h14 := U_G0.out; omega)
    have Wb_13 : Hid (GB w2.heap.size w13 WK (nthG l0 k).key WS Wf Wq) := Wb_12.out.only ho (fun k hk hs => by have hx := GR.out k hs; have hy := WbR.out k hk; have h0 := Z1.out; have h1 := Z2.out; have h2 := Z3.out; have h3 := Z4.out; have h4 := Z5.out; have h5 := Z6.out; have h6 := Z7.out; have h7 := Z8.out; have h8 := Z9.out; have h9 := Z10.out; have h10 := Z11.out; have h11 := Z12.out; have h12 := Z13.out; have h13 := U_W0.out; have h14 := U_G0.out; omega)
    have W0_13 : Hid (Blk w13 w3.heap.size #[.int .i64 (nthG l0 k).n, .slice (some ⟨WK, 0, none⟩) (nthG l0 k).key.length Wd, .int .i64 a2, .slice (some ⟨WS, Wf, none⟩) Wq.length We] 55) := ho.blk W0_12.out (fun hs => by have hx := GR.out _ hs; have h0 := Z1.out; have h1 := Z2.out; have h2 := Z3.out; have h3 := Z4.out; have h4 := Z5.out; have h5 := Z6.out; have h6 := Z7.out; have h7 := Z8.out; have h8 := Z9.out; have h9 := Z10.out; have h10 := Z11.out; have h11 := Z12.out; have h12 := Z13.out; have h13 := U_W0.out; have h14 := U_G0.out; omega)
    have Gb_13 : Hid (GB w4.heap.size w13 GK (nthG l0 k).key GS Gf Gq) := Gb_12.out.only ho (fun q hq hs => GD.out q hs hq)
    have G0_13 : Hid (Blk w13 w5.heap.size #[.int .i64 (nthG l0 k).n, .slice (some ⟨GK, 0, none⟩) (nthG l0 k).key.length Gd, .int .i64 a2, .slice (some ⟨GS, Gf, none⟩) Gq.length Ge] 55) := ho.blk G0_12.out (fun hs => by have hx := GR.out _ hs; have h0 := Z1.out; have h1 := Z2.out; have h2 := Z3.out; have h3 := Z4.out; have h4 := Z5.out; have h5 := Z6.out; have h6 := Z7.out; have h7 := Z8.out; have h8 := Z9.out; have h9 := Z10.out; have h10 := Z11.out; have h11 := Z12.out; have h12 := Z13.out; have h13 := U_W0.out; have h14 := U_G0.out; omega)
    have H_13 : Hid (MR w13 GM Gr 1 Gr.length) := hm
    clear hm
    clear ho cW00 cW01 cW02 cW03 cG00 cG01 cG02 cG03
    have MG : Hid (1 ≤ 1 + sumR Gr ∧ 1 + sumR Gr ≤ 4000000) := by have := GZ.out.1; exact ⟨by omega, by omega⟩
    obtain ⟨m4, hm4⟩ : ∃ m, 1 + sumR Gr = m := ⟨_, rfl⟩
    have HM4 : Hid (1 + sumR Gr = m4) := hm4
    rw [hm4] at MG ⊢
    clear hm4
    have QL : Hid (Gq.length ≤ 2000000 ∧ m4 + 2 * (nthG l0 k).key.length + sumA Gq ≤ 9000000) := by have h1 := sumA_pals Gq; have h2 := pals_len Gq; rw [GQ.out] at h1 h2; have h3 := KS.out; have h4 := K0.out.2.1; have h5 := MG.out.2; exact ⟨by omega, by omega⟩
    have KL : Hid ((nthG l0 k).key.length ≤ 1048576) := by have h3 := KS.out; have h4 := K0.out.2.1; show _ ≤ _; omega
    have cW00 : w13.cell? ⟨w3.heap.size, 0, none⟩ = some (.int .i64 (nthG l0 k).n) := (W0_13.out).cell 0
    have cW01 : w13.cell? ⟨w3.heap.size, 1, none⟩ = some (.slice (some ⟨WK, 0, none⟩) (nthG l0 k).key.length Wd) := (W0_13.out).cell 1
    have cW02 : w13.cell? ⟨w3.heap.size, 2, none⟩ = some (.int .i64 a2) := (W0_13.out).cell 2
    have cW03 : w13.cell? ⟨w3.heap.size, 3, none⟩ = some (.slice (some ⟨WS, Wf, none⟩) Wq.length We) := (W0_13.out).cell 3
    have cG00 : w13.cell? ⟨w5.heap.size, 0, none⟩ = some (.int .i64 (nthG l0 k).n) := (G0_13.out).cell 0
    have cG01 : w13.cell? ⟨w5.heap.size, 1, none⟩ = some (.slice (some ⟨GK, 0, none⟩) (nthG l0 k).key.length Gd) := (G0_13.out).cell 1
    have cG02 : w13.cell? ⟨w5.heap.size, 2, none⟩ = some (.int .i64 a2) := (G0_13.out).cell 2
    have cG03 : w13.cell? ⟨w5.heap.size, 3, none⟩ = some (.slice (some ⟨GS, Gf, none⟩) Gq.length Ge) := (G0_13.out).cell 3
    go_wp2_with fail
    refine (Grp.markBatch_any (nthG l0 k).n a2 GK Gd (nthG l0 k).key GS Gf Ge m4 _ Gq w13 Gb_13.out KL.out QL.out.1 MG.out.1 QL.out.2).mono ?_
    rintro e w14 ⟨rfl, hm, ho⟩
    have B14 : Hid (Below w.heap.size w w14) := B13.out.trans (ho.low (fun k hk => by have hx := GbR.out k hk; have hw := B4.out.size; have h0 := Z1.out; have h1 := Z2.out; have h2 := Z3.out; have h3 := Z4.out; have h4 := Z5.out; have h5 := Z6.out; have h6 := Z7.out; have h7 := Z8.out; have h8 := Z9.out; have h9 := Z10.out; have h10 := Z11.out; have h11 := Z12.out; have h12 := Z13.out; have h13 := U_W0.out; have h14 := U_G0.out; omega) B13.out.size)
    have Z14 : Hid (w13.heap.size ≤ w14.heap.size) := ho.size
    have W_14 : Hid (GsB w2.heap.size w14 WM Wc Wr) := gs_only W_13.out ho (fun k hk hs => by have hx := GbR.out k hs; have hy := WR.out k hk; have h0 := Z1.out; have h1 := Z2.out; have h2 := Z3.out; have h3 := Z4.out; have h4 := Z5.out; have h5 := Z6.out; have h6 := Z7.out; have h7 := Z8.out; have h8 := Z9.out; have h9 := Z10.out; have h10 := Z11.out; have h11 := Z12.out; have h12 := Z13.out; have h13 := Z14.out; have h14 := U_W0.out; have h15 := U_G0.out; omega)
    have Wb_14 : Hid (GB w2.heap.size w14 WK (nthG l0 k).key WS Wf Wq) := Wb_13.out.only ho (fun k hk hs => by have hx := GbR.out k hs; have hy := WbR.out k hk; have h0 := Z1.out; have h1 := Z2.out; have h2 := Z3.out; have h3 := Z4.out; have h4 := Z5.out; have h5 := Z6.out; have h6 := Z7.out; have h7 := Z8.out; have h8 := Z9.out; have h9 := Z10.out; have h10 := Z11.out; have h11 := Z12.out; have h12 := Z13.out; have h13 := Z14.out; have h14 := U_W0.out; have h15 := U_G0.out; omega)
    have W0_14 : Hid (Blk w14 w3.heap.size #[.int .i64 (nthG l0 k).n, .slice (some ⟨WK, 0, none⟩) (nthG l0 k).key.length Wd, .int .i64 a2, .slice (some ⟨WS, Wf, none⟩) Wq.length We] 55) := ho.blk W0_13.out (fun hs => by have hx := GbR.out _ hs; have h0 := Z1.out; have h1 := Z2.out; have h2 := Z3.out; have h3 := Z4.out; have h4 := Z5.out; have h5 := Z6.out; have h6 := Z7.out; have h7 := Z8.out; have h8 := Z9.out; have h9 := Z10.out; have h10 := Z11.out; have h11 := Z12.out; have h12 := Z13.out; have h13 := Z14.out; have h14 := U_W0.out; have h15 := U_G0.out; omega)
    have G0_14 : Hid (Blk w14 w5.heap.size #[.int .i64 (nthG l0 k).n, .slice (some ⟨GK, 0, none⟩) (nthG l0 k).key.length Gd, .int .i64 a2, .slice (some ⟨GS, Gf, none⟩) Gq.length Ge] 55) := ho.blk G0_13.out (fun hs => by have hx := GbR.out _ hs; have h0 := Z1.out; have h1 := Z2.out; have h2 := Z3.out; have h3 := Z4.out; have h4 := Z5.out; have h5 := Z6.out; have h6 := Z7.out; have h7 := Z8.out; have h8 := Z9.out; have h9 := Z10.out; have h10 := Z11.out; have h11 := Z12.out; have h12 := Z13.out; have h13 := Z14.out; have h14 := U_W0.out; have h15 := U_G0.out; omega)
    have H_14 : Hid (MR w14 GM Gr 1 Gr.length) := H_13.out.only ho (fun q hq hs => GD.out q hq hs)
    have J_14 : Hid (Grp.GM w14 GK (nthG l0 k).key.length GS Gf Gq m4) := hm
    clear hm
    clear ho cW00 cW01 cW02 cW03 cG00 cG01 cG02 cG03
    have hq : ¬ ((1 + sumR Gr : Nat) : Int) < 0 := by omega
    have cW00 : w14.cell? ⟨w3.heap.size, 0, none⟩ = some (.int .i64 (nthG l0 k).n) := (W0_14.out).cell 0
    have cW01 : w14.cell? ⟨w3.heap.size, 1, none⟩ = some (.slice (some ⟨WK, 0, none⟩) (nthG l0 k).key.length Wd) := (W0_14.out).cell 1
    have cW02 : w14.cell? ⟨w3.heap.size, 2, none⟩ = some (.int .i64 a2) := (W0_14.out).cell 2
    have cW03 : w14.cell? ⟨w3.heap.size, 3, none⟩ = some (.slice (some ⟨WS, Wf, none⟩) Wq.length We) := (W0_14.out).cell 3
    have cG00 : w14.cell? ⟨w5.heap.size, 0, none⟩ = some (.int .i64 (nthG l0 k).n) := (G0_14.out).cell 0
    have cG01 : w14.cell? ⟨w5.heap.size, 1, none⟩ = some (.slice (some ⟨GK, 0, none⟩) (nthG l0 k).key.length Gd) := (G0_14.out).cell 1
    have cG02 : w14.cell? ⟨w5.heap.size, 2, none⟩ = some (.int .i64 a2) := (G0_14.out).cell 2
    have cG03 : w14.cell? ⟨w5.heap.size, 3, none⟩ = some (.slice (some ⟨GS, Gf, none⟩) Gq.length Ge) := (G0_14.out).cell 3
    go_wp2_with fail
    refine (heldGs_any GM 1 Gc Gr _ H_14.out GL.out GZ.out.2 (by omega) (by have := GZ.out.1; omega)).mono ?_
    rintro e w15 ⟨rfl, hb⟩
    have B15 : Hid (Below w.heap.size w w15) := grow_on B14.out hb
    have Z15 : Hid (w14.heap.size ≤ w15.heap.size) := hb.size
    have W_15 : Hid (GsB w2.heap.size w15 WM Wc Wr) := W_14.out.grow hb
    have Wb_15 : Hid (GB w2.heap.size w15 WK (nthG l0 k).key WS Wf Wq) := Wb_14.out.grow hb
    have W0_15 : Hid (Blk w15 w3.heap.size #[.int .i64 (nthG l0 k).n, .slice (some ⟨WK, 0, none⟩) (nthG l0 k).key.length Wd, .int .i64 a2, .slice (some ⟨WS, Wf, none⟩) Wq.length We] 55) := W0_14.out.grow hb
    have G0_15 : Hid (Blk w15 w5.heap.size #[.int .i64 (nthG l0 k).n, .slice (some ⟨GK, 0, none⟩) (nthG l0 k).key.length Gd, .int .i64 a2, .slice (some ⟨GS, Gf, none⟩) Gq.length Ge] 55) := G0_14.out.grow hb
    have H_15 : Hid (MR w15 GM Gr 1 Gr.length) := H_14.out.grow hb
    have J_15 : Hid (Grp.GM w15 GK (nthG l0 k).key.length GS Gf Gq m4) := J_14.out.grow hb
    clear hb cW00 cW01 cW02 cW03 cG00 cG01 cG02 cG03
    rw [HM4.out] at hq ⊢
    have cW00 : w15.cell? ⟨w3.heap.size, 0, none⟩ = some (.int .i64 (nthG l0 k).n) := (W0_15.out).cell 0
    have cW01 : w15.cell? ⟨w3.heap.size, 1, none⟩ = some (.slice (some ⟨WK, 0, none⟩) (nthG l0 k).key.length Wd) := (W0_15.out).cell 1
    have cW02 : w15.cell? ⟨w3.heap.size, 2, none⟩ = some (.int .i64 a2) := (W0_15.out).cell 2
    have cW03 : w15.cell? ⟨w3.heap.size, 3, none⟩ = some (.slice (some ⟨WS, Wf, none⟩) Wq.length We) := (W0_15.out).cell 3
    have cG00 : w15.cell? ⟨w5.heap.size, 0, none⟩ = some (.int .i64 (nthG l0 k).n) := (G0_15.out).cell 0
    have cG01 : w15.cell? ⟨w5.heap.size, 1, none⟩ = some (.slice (some ⟨GK, 0, none⟩) (nthG l0 k).key.length Gd) := (G0_15.out).cell 1
    have cG02 : w15.cell? ⟨w5.heap.size, 2, none⟩ = some (.int .i64 a2) := (G0_15.out).cell 2
    have cG03 : w15.cell? ⟨w5.heap.size, 3, none⟩ = some (.slice (some ⟨GS, Gf, none⟩) Gq.length Ge) := (G0_15.out).cell 3
    go_wp2_with fail
    refine (Grp.heldBatch_any (nthG l0 k).n a2 GK Gd (nthG l0 k).key GS Gf Ge m4 Gq _ J_15.out GbL.out KL.out QL.out.1 MG.out.1 QL.out.2).mono ?_
    rintro e w16 ⟨rfl, hb⟩
    have B16 : Hid (Below w.heap.size w w16) := grow_on B15.out hb
    have Z16 : Hid (w15.heap.size ≤ w16.heap.size) := hb.size
    have W_16 : Hid (GsB w2.heap.size w16 WM Wc Wr) := W_15.out.grow hb
    have Wb_16 : Hid (GB w2.heap.size w16 WK (nthG l0 k).key WS Wf Wq) := Wb_15.out.grow hb
    have W0_16 : Hid (Blk w16 w3.heap.size #[.int .i64 (nthG l0 k).n, .slice (some ⟨WK, 0, none⟩) (nthG l0 k).key.length Wd, .int .i64 a2, .slice (some ⟨WS, Wf, none⟩) Wq.length We] 55) := W0_15.out.grow hb
    have G0_16 : Hid (Blk w16 w5.heap.size #[.int .i64 (nthG l0 k).n, .slice (some ⟨GK, 0, none⟩) (nthG l0 k).key.length Gd, .int .i64 a2, .slice (some ⟨GS, Gf, none⟩) Gq.length Ge] 55) := G0_15.out.grow hb
    have H_16 : Hid (MR w16 GM Gr 1 Gr.length) := H_15.out.grow hb
    have J_16 : Hid (Grp.GM w16 GK (nthG l0 k).key.length GS Gf Gq m4) := J_15.out.grow hb
    clear hb cW00 cW01 cW02 cW03 cG00 cG01 cG02 cG03
    clear hq
    have hq : ¬ ((m4 + 2 * (nthG l0 k).key.length + sumA Gq : Nat) : Int) < 0 := by omega
    have cW00 : w16.cell? ⟨w3.heap.size, 0, none⟩ = some (.int .i64 (nthG l0 k).n) := (W0_16.out).cell 0
    have cW01 : w16.cell? ⟨w3.heap.size, 1, none⟩ = some (.slice (some ⟨WK, 0, none⟩) (nthG l0 k).key.length Wd) := (W0_16.out).cell 1
    have cW02 : w16.cell? ⟨w3.heap.size, 2, none⟩ = some (.int .i64 a2) := (W0_16.out).cell 2
    have cW03 : w16.cell? ⟨w3.heap.size, 3, none⟩ = some (.slice (some ⟨WS, Wf, none⟩) Wq.length We) := (W0_16.out).cell 3
    have cG00 : w16.cell? ⟨w5.heap.size, 0, none⟩ = some (.int .i64 (nthG l0 k).n) := (G0_16.out).cell 0
    have cG01 : w16.cell? ⟨w5.heap.size, 1, none⟩ = some (.slice (some ⟨GK, 0, none⟩) (nthG l0 k).key.length Gd) := (G0_16.out).cell 1
    have cG02 : w16.cell? ⟨w5.heap.size, 2, none⟩ = some (.int .i64 a2) := (G0_16.out).cell 2
    have cG03 : w16.cell? ⟨w5.heap.size, 3, none⟩ = some (.slice (some ⟨GS, Gf, none⟩) Gq.length Ge) := (G0_16.out).cell 3
    go_wp2_with fail
    refine (Gps.toGs_any a0 cap0 l0 _ (R0.out.below stays_ga B16.out) K0.out.1 K0.out.2.1).mono ?_
    rintro e w17 ⟨rfl, ⟨Ur, hA, hP, hC⟩, hb⟩
    have U_17 : Hid (GsB w16.heap.size w17 w16.heap.size l0.length Ur) := hA
    have UP : Hid (grs Ur = l0) := hP
    have UC : Hid (CapsG Ur) := hC
    have UR : Hid (∀ k, blksG w16.heap.size Ur k → w16.heap.size ≤ k ∧ k < w17.heap.size) := rngG hA
    clear hA hP hC
    have B17 : Hid (Below w.heap.size w w17) := grow_on B16.out hb
    have Z17 : Hid (w16.heap.size ≤ w17.heap.size) := hb.size
    have W_17 : Hid (GsB w2.heap.size w17 WM Wc Wr) := W_16.out.grow hb
    have Wb_17 : Hid (GB w2.heap.size w17 WK (nthG l0 k).key WS Wf Wq) := Wb_16.out.grow hb
    have W0_17 : Hid (Blk w17 w3.heap.size #[.int .i64 (nthG l0 k).n, .slice (some ⟨WK, 0, none⟩) (nthG l0 k).key.length Wd, .int .i64 a2, .slice (some ⟨WS, Wf, none⟩) Wq.length We] 55) := W0_16.out.grow hb
    have G0_17 : Hid (Blk w17 w5.heap.size #[.int .i64 (nthG l0 k).n, .slice (some ⟨GK, 0, none⟩) (nthG l0 k).key.length Gd, .int .i64 a2, .slice (some ⟨GS, Gf, none⟩) Gq.length Ge] 55) := G0_16.out.grow hb
    have H_17 : Hid (MR w17 GM Gr 1 Gr.length) := H_16.out.grow hb
    have J_17 : Hid (Grp.GM w17 GK (nthG l0 k).key.length GS Gf Gq m4) := J_16.out.grow hb
    clear hb cW00 cW01 cW02 cW03 cG00 cG01 cG02 cG03
    have cW00 : w17.cell? ⟨w3.heap.size, 0, none⟩ = some (.int .i64 (nthG l0 k).n) := (W0_17.out).cell 0
    have cW01 : w17.cell? ⟨w3.heap.size, 1, none⟩ = some (.slice (some ⟨WK, 0, none⟩) (nthG l0 k).key.length Wd) := (W0_17.out).cell 1
    have cW02 : w17.cell? ⟨w3.heap.size, 2, none⟩ = some (.int .i64 a2) := (W0_17.out).cell 2
    have cW03 : w17.cell? ⟨w3.heap.size, 3, none⟩ = some (.slice (some ⟨WS, Wf, none⟩) Wq.length We) := (W0_17.out).cell 3
    have cG00 : w17.cell? ⟨w5.heap.size, 0, none⟩ = some (.int .i64 (nthG l0 k).n) := (G0_17.out).cell 0
    have cG01 : w17.cell? ⟨w5.heap.size, 1, none⟩ = some (.slice (some ⟨GK, 0, none⟩) (nthG l0 k).key.length Gd) := (G0_17.out).cell 1
    have cG02 : w17.cell? ⟨w5.heap.size, 2, none⟩ = some (.int .i64 a2) := (G0_17.out).cell 2
    have cG03 : w17.cell? ⟨w5.heap.size, 3, none⟩ = some (.slice (some ⟨GS, Gf, none⟩) Gq.length Ge) := (G0_17.out).cell 3
    go_wp2_with fail
    refine (GpY.implF_some _ _ l0 a1 a2 k _ (rdN U_17.out UP.out UC.out) K0.out.1 CAP.out N0.out HE.out).mono ?_
    rintro e w18 ⟨⟨VM, Vc, Vr, VK, Vd, VS, Vf, Ve, Vq, rfl, hA, hP, hB, hQ, hD⟩, hb⟩
    have V_18 : Hid (GsB w17.heap.size w18 VM Vc Vr) := hA
    have VP : Hid (grs Vr = (flushG l0 k a2)) := hP
    have VR : Hid (∀ k, blksG VM Vr k → w17.heap.size ≤ k ∧ k < w18.heap.size) := rngG hA
    have Vb_18 : Hid (GB w17.heap.size w18 VK (nthG l0 k).key VS Vf Vq) := hB
    have VQ : Hid (pals Vq = (nthG l0 k).P) := hQ
    have VbR : Hid (∀ k, gblks VK VS Vq k → w17.heap.size ≤ k ∧ k < w18.heap.size) := hB.rng
    have VD : Hid (∀ q, blksG VM Vr q → ¬ gblks VK VS Vq q) := hD
    clear hA hP hB hQ hD
    have B18 : Hid (Below w.heap.size w w18) := grow_on B17.out hb
    have Z18 : Hid (w17.heap.size ≤ w18.heap.size) := hb.size
    have W_18 : Hid (GsB w2.heap.size w18 WM Wc Wr) := W_17.out.grow hb
    have Wb_18 : Hid (GB w2.heap.size w18 WK (nthG l0 k).key WS Wf Wq) := Wb_17.out.grow hb
    have W0_18 : Hid (Blk w18 w3.heap.size #[.int .i64 (nthG l0 k).n, .slice (some ⟨WK, 0, none⟩) (nthG l0 k).key.length Wd, .int .i64 a2, .slice (some ⟨WS, Wf, none⟩) Wq.length We] 55) := W0_17.out.grow hb
    have G0_18 : Hid (Blk w18 w5.heap.size #[.int .i64 (nthG l0 k).n, .slice (some ⟨GK, 0, none⟩) (nthG l0 k).key.length Gd, .int .i64 a2, .slice (some ⟨GS, Gf, none⟩) Gq.length Ge] 55) := G0_17.out.grow hb
    have H_18 : Hid (MR w18 GM Gr 1 Gr.length) := H_17.out.grow hb
    have J_18 : Hid (Grp.GM w18 GK (nthG l0 k).key.length GS Gf Gq m4) := J_17.out.grow hb
    have U_18 : Hid (GsB w16.heap.size w18 w16.heap.size l0.length Ur) := U_17.out.grow hb
    clear hb cW00 cW01 cW02 cW03 cG00 cG01 cG02 cG03
    clear hq
    have cW00 : (w18.alloc (.cells #[.int .i64 (nthG l0 k).n, .slice (some ⟨VK, 0, none⟩) (nthG l0 k).key.length Vd, .int .i64 a2, .slice (some ⟨VS, Vf, none⟩) Vq.length Ve] 55)).cell? ⟨w3.heap.size, 0, none⟩ = some (.int .i64 (nthG l0 k).n) := ((W0_18.out.alloc _)).cell 0
    have cW01 : (w18.alloc (.cells #[.int .i64 (nthG l0 k).n, .slice (some ⟨VK, 0, none⟩) (nthG l0 k).key.length Vd, .int .i64 a2, .slice (some ⟨VS, Vf, none⟩) Vq.length Ve] 55)).cell? ⟨w3.heap.size, 1, none⟩ = some (.slice (some ⟨WK, 0, none⟩) (nthG l0 k).key.length Wd) := ((W0_18.out.alloc _)).cell 1
    have cW02 : (w18.alloc (.cells #[.int .i64 (nthG l0 k).n, .slice (some ⟨VK, 0, none⟩) (nthG l0 k).key.length Vd, .int .i64 a2, .slice (some ⟨VS, Vf, none⟩) Vq.length Ve] 55)).cell? ⟨w3.heap.size, 2, none⟩ = some (.int .i64 a2) := ((W0_18.out.alloc _)).cell 2
    have cW03 : (w18.alloc (.cells #[.int .i64 (nthG l0 k).n, .slice (some ⟨VK, 0, none⟩) (nthG l0 k).key.length Vd, .int .i64 a2, .slice (some ⟨VS, Vf, none⟩) Vq.length Ve] 55)).cell? ⟨w3.heap.size, 3, none⟩ = some (.slice (some ⟨WS, Wf, none⟩) Wq.length We) := ((W0_18.out.alloc _)).cell 3
    have cG00 : (w18.alloc (.cells #[.int .i64 (nthG l0 k).n, .slice (some ⟨VK, 0, none⟩) (nthG l0 k).key.length Vd, .int .i64 a2, .slice (some ⟨VS, Vf, none⟩) Vq.length Ve] 55)).cell? ⟨w5.heap.size, 0, none⟩ = some (.int .i64 (nthG l0 k).n) := ((G0_18.out.alloc _)).cell 0
    have cG01 : (w18.alloc (.cells #[.int .i64 (nthG l0 k).n, .slice (some ⟨VK, 0, none⟩) (nthG l0 k).key.length Vd, .int .i64 a2, .slice (some ⟨VS, Vf, none⟩) Vq.length Ve] 55)).cell? ⟨w5.heap.size, 1, none⟩ = some (.slice (some ⟨GK, 0, none⟩) (nthG l0 k).key.length Gd) := ((G0_18.out.alloc _)).cell 1
    have cG02 : (w18.alloc (.cells #[.int .i64 (nthG l0 k).n, .slice (some ⟨VK, 0, none⟩) (nthG l0 k).key.length Vd, .int .i64 a2, .slice (some ⟨VS, Vf, none⟩) Vq.length Ve] 55)).cell? ⟨w5.heap.size, 2, none⟩ = some (.int .i64 a2) := ((G0_18.out.alloc _)).cell 2
    have cG03 : (w18.alloc (.cells #[.int .i64 (nthG l0 k).n, .slice (some ⟨VK, 0, none⟩) (nthG l0 k).key.length Vd, .int .i64 a2, .slice (some ⟨VS, Vf, none⟩) Vq.length Ve] 55)).cell? ⟨w5.heap.size, 3, none⟩ = some (.slice (some ⟨GS, Gf, none⟩) Gq.length Ge) := ((G0_18.out.alloc _)).cell 3
    go_wp2_with fail
    refine (eqL_any _ _ _ _ _ _ _ _ Vr Wr _ _ (V_18.out.grow (Go.Joins.below_alloc1 w18 _)) (W_18.out.grow (Go.Joins.below_alloc1 w18 _)) VP.out WP.out PL.out.1 PL.out.2).mono ?_
    rintro e w19 ⟨rfl, hb⟩
    have V0_19 : Hid (Blk w19 w18.heap.size #[.int .i64 (nthG l0 k).n, .slice (some ⟨VK, 0, none⟩) (nthG l0 k).key.length Vd, .int .i64 a2, .slice (some ⟨VS, Vf, none⟩) Vq.length Ve] 55) := (Blk.new _ _ _).grow hb
    have U_V0 : Hid (w18.heap.size ≤ w18.heap.size ∧ w18.heap.size < w19.heap.size) := ⟨by omega, V0_19.out.lt⟩
    replace hb := grow_on (Go.Joins.below_alloc1 w18 _) hb
    have B19 : Hid (Below w.heap.size w w19) := grow_on B18.out hb
    have Z19 : Hid (w18.heap.size ≤ w19.heap.size) := hb.size
    have W_19 : Hid (GsB w2.heap.size w19 WM Wc Wr) := W_18.out.grow hb
    have Wb_19 : Hid (GB w2.heap.size w19 WK (nthG l0 k).key WS Wf Wq) := Wb_18.out.grow hb
    have W0_19 : Hid (Blk w19 w3.heap.size #[.int .i64 (nthG l0 k).n, .slice (some ⟨WK, 0, none⟩) (nthG l0 k).key.length Wd, .int .i64 a2, .slice (some ⟨WS, Wf, none⟩) Wq.length We] 55) := W0_18.out.grow hb
    have G0_19 : Hid (Blk w19 w5.heap.size #[.int .i64 (nthG l0 k).n, .slice (some ⟨GK, 0, none⟩) (nthG l0 k).key.length Gd, .int .i64 a2, .slice (some ⟨GS, Gf, none⟩) Gq.length Ge] 55) := G0_18.out.grow hb
    have H_19 : Hid (MR w19 GM Gr 1 Gr.length) := H_18.out.grow hb
    have J_19 : Hid (Grp.GM w19 GK (nthG l0 k).key.length GS Gf Gq m4) := J_18.out.grow hb
    have V_19 : Hid (GsB w17.heap.size w19 VM Vc Vr) := V_18.out.grow hb
    have Vb_19 : Hid (GB w17.heap.size w19 VK (nthG l0 k).key VS Vf Vq) := Vb_18.out.grow hb
    clear hb cW00 cW01 cW02 cW03 cG00 cG01 cG02 cG03
    have cW00 : w19.cell? ⟨w3.heap.size, 0, none⟩ = some (.int .i64 (nthG l0 k).n) := (W0_19.out).cell 0
    have cW01 : w19.cell? ⟨w3.heap.size, 1, none⟩ = some (.slice (some ⟨WK, 0, none⟩) (nthG l0 k).key.length Wd) := (W0_19.out).cell 1
    have cW02 : w19.cell? ⟨w3.heap.size, 2, none⟩ = some (.int .i64 a2) := (W0_19.out).cell 2
    have cW03 : w19.cell? ⟨w3.heap.size, 3, none⟩ = some (.slice (some ⟨WS, Wf, none⟩) Wq.length We) := (W0_19.out).cell 3
    have cG00 : w19.cell? ⟨w5.heap.size, 0, none⟩ = some (.int .i64 (nthG l0 k).n) := (G0_19.out).cell 0
    have cG01 : w19.cell? ⟨w5.heap.size, 1, none⟩ = some (.slice (some ⟨GK, 0, none⟩) (nthG l0 k).key.length Gd) := (G0_19.out).cell 1
    have cG02 : w19.cell? ⟨w5.heap.size, 2, none⟩ = some (.int .i64 a2) := (G0_19.out).cell 2
    have cG03 : w19.cell? ⟨w5.heap.size, 3, none⟩ = some (.slice (some ⟨GS, Gf, none⟩) Gq.length Ge) := (G0_19.out).cell 3
    have cV00 : w19.cell? ⟨w18.heap.size, 0, none⟩ = some (.int .i64 (nthG l0 k).n) := (V0_19.out).cell 0
    have cV01 : w19.cell? ⟨w18.heap.size, 1, none⟩ = some (.slice (some ⟨VK, 0, none⟩) (nthG l0 k).key.length Vd) := (V0_19.out).cell 1
    have cV02 : w19.cell? ⟨w18.heap.size, 2, none⟩ = some (.int .i64 a2) := (V0_19.out).cell 2
    have cV03 : w19.cell? ⟨w18.heap.size, 3, none⟩ = some (.slice (some ⟨VS, Vf, none⟩) Vq.length Ve) := (V0_19.out).cell 3
    go_wp2_with fail
    refine (eqBt_any (nthG l0 k).n a2 _ _ _ _ (nthG l0 k).key _ _ _ _ Vq Wq (nthG l0 k).P _ (Vb_19.out.key.rd) (Wb_19.out.key.rd) KX.out.1 (Vb_19.out.row.rd) (Wb_19.out.row.rd) VQ.out WQ.out KX.out.2.1 KX.out.2.2).mono ?_
    rintro e w20 ⟨rfl, hb⟩
    have B20 : Hid (Below w.heap.size w w20) := grow_on B19.out hb
    have Z20 : Hid (w19.heap.size ≤ w20.heap.size) := hb.size
    have W_20 : Hid (GsB w2.heap.size w20 WM Wc Wr) := W_19.out.grow hb
    have Wb_20 : Hid (GB w2.heap.size w20 WK (nthG l0 k).key WS Wf Wq) := Wb_19.out.grow hb
    have W0_20 : Hid (Blk w20 w3.heap.size #[.int .i64 (nthG l0 k).n, .slice (some ⟨WK, 0, none⟩) (nthG l0 k).key.length Wd, .int .i64 a2, .slice (some ⟨WS, Wf, none⟩) Wq.length We] 55) := W0_19.out.grow hb
    have G0_20 : Hid (Blk w20 w5.heap.size #[.int .i64 (nthG l0 k).n, .slice (some ⟨GK, 0, none⟩) (nthG l0 k).key.length Gd, .int .i64 a2, .slice (some ⟨GS, Gf, none⟩) Gq.length Ge] 55) := G0_19.out.grow hb
    have H_20 : Hid (MR w20 GM Gr 1 Gr.length) := H_19.out.grow hb
    have J_20 : Hid (Grp.GM w20 GK (nthG l0 k).key.length GS Gf Gq m4) := J_19.out.grow hb
    have V_20 : Hid (GsB w17.heap.size w20 VM Vc Vr) := V_19.out.grow hb
    have Vb_20 : Hid (GB w17.heap.size w20 VK (nthG l0 k).key VS Vf Vq) := Vb_19.out.grow hb
    have V0_20 : Hid (Blk w20 w18.heap.size #[.int .i64 (nthG l0 k).n, .slice (some ⟨VK, 0, none⟩) (nthG l0 k).key.length Vd, .int .i64 a2, .slice (some ⟨VS, Vf, none⟩) Vq.length Ve] 55) := V0_19.out.grow hb
    clear hb cW00 cW01 cW02 cW03 cG00 cG01 cG02 cG03 cV00 cV01 cV02 cV03
    have hq : ¬ ((1 + sumR Gr : Nat) : Int) < 0 := by omega
    have cW00 : w20.cell? ⟨w3.heap.size, 0, none⟩ = some (.int .i64 (nthG l0 k).n) := (W0_20.out).cell 0
    have cW01 : w20.cell? ⟨w3.heap.size, 1, none⟩ = some (.slice (some ⟨WK, 0, none⟩) (nthG l0 k).key.length Wd) := (W0_20.out).cell 1
    have cW02 : w20.cell? ⟨w3.heap.size, 2, none⟩ = some (.int .i64 a2) := (W0_20.out).cell 2
    have cW03 : w20.cell? ⟨w3.heap.size, 3, none⟩ = some (.slice (some ⟨WS, Wf, none⟩) Wq.length We) := (W0_20.out).cell 3
    have cG00 : w20.cell? ⟨w5.heap.size, 0, none⟩ = some (.int .i64 (nthG l0 k).n) := (G0_20.out).cell 0
    have cG01 : w20.cell? ⟨w5.heap.size, 1, none⟩ = some (.slice (some ⟨GK, 0, none⟩) (nthG l0 k).key.length Gd) := (G0_20.out).cell 1
    have cG02 : w20.cell? ⟨w5.heap.size, 2, none⟩ = some (.int .i64 a2) := (G0_20.out).cell 2
    have cG03 : w20.cell? ⟨w5.heap.size, 3, none⟩ = some (.slice (some ⟨GS, Gf, none⟩) Gq.length Ge) := (G0_20.out).cell 3
    have cV00 : w20.cell? ⟨w18.heap.size, 0, none⟩ = some (.int .i64 (nthG l0 k).n) := (V0_20.out).cell 0
    have cV01 : w20.cell? ⟨w18.heap.size, 1, none⟩ = some (.slice (some ⟨VK, 0, none⟩) (nthG l0 k).key.length Vd) := (V0_20.out).cell 1
    have cV02 : w20.cell? ⟨w18.heap.size, 2, none⟩ = some (.int .i64 a2) := (V0_20.out).cell 2
    have cV03 : w20.cell? ⟨w18.heap.size, 3, none⟩ = some (.slice (some ⟨VS, Vf, none⟩) Vq.length Ve) := (V0_20.out).cell 3
    go_wp2_with fail
    refine (heldGs_any GM 1 Gc Gr _ H_20.out GL.out GZ.out.2 (by omega) (by have := GZ.out.1; omega)).mono ?_
    rintro e w21 ⟨rfl, hb⟩
    have B21 : Hid (Below w.heap.size w w21) := grow_on B20.out hb
    have Z21 : Hid (w20.heap.size ≤ w21.heap.size) := hb.size
    have W_21 : Hid (GsB w2.heap.size w21 WM Wc Wr) := W_20.out.grow hb
    have Wb_21 : Hid (GB w2.heap.size w21 WK (nthG l0 k).key WS Wf Wq) := Wb_20.out.grow hb
    have W0_21 : Hid (Blk w21 w3.heap.size #[.int .i64 (nthG l0 k).n, .slice (some ⟨WK, 0, none⟩) (nthG l0 k).key.length Wd, .int .i64 a2, .slice (some ⟨WS, Wf, none⟩) Wq.length We] 55) := W0_20.out.grow hb
    have G0_21 : Hid (Blk w21 w5.heap.size #[.int .i64 (nthG l0 k).n, .slice (some ⟨GK, 0, none⟩) (nthG l0 k).key.length Gd, .int .i64 a2, .slice (some ⟨GS, Gf, none⟩) Gq.length Ge] 55) := G0_20.out.grow hb
    have H_21 : Hid (MR w21 GM Gr 1 Gr.length) := H_20.out.grow hb
    have J_21 : Hid (Grp.GM w21 GK (nthG l0 k).key.length GS Gf Gq m4) := J_20.out.grow hb
    have V_21 : Hid (GsB w17.heap.size w21 VM Vc Vr) := V_20.out.grow hb
    have Vb_21 : Hid (GB w17.heap.size w21 VK (nthG l0 k).key VS Vf Vq) := Vb_20.out.grow hb
    have V0_21 : Hid (Blk w21 w18.heap.size #[.int .i64 (nthG l0 k).n, .slice (some ⟨VK, 0, none⟩) (nthG l0 k).key.length Vd, .int .i64 a2, .slice (some ⟨VS, Vf, none⟩) Vq.length Ve] 55) := V0_20.out.grow hb
    clear hb cW00 cW01 cW02 cW03 cG00 cG01 cG02 cG03 cV00 cV01 cV02 cV03
    rw [HM4.out] at hq ⊢
    have cW00 : w21.cell? ⟨w3.heap.size, 0, none⟩ = some (.int .i64 (nthG l0 k).n) := (W0_21.out).cell 0
    have cW01 : w21.cell? ⟨w3.heap.size, 1, none⟩ = some (.slice (some ⟨WK, 0, none⟩) (nthG l0 k).key.length Wd) := (W0_21.out).cell 1
    have cW02 : w21.cell? ⟨w3.heap.size, 2, none⟩ = some (.int .i64 a2) := (W0_21.out).cell 2
    have cW03 : w21.cell? ⟨w3.heap.size, 3, none⟩ = some (.slice (some ⟨WS, Wf, none⟩) Wq.length We) := (W0_21.out).cell 3
    have cG00 : w21.cell? ⟨w5.heap.size, 0, none⟩ = some (.int .i64 (nthG l0 k).n) := (G0_21.out).cell 0
    have cG01 : w21.cell? ⟨w5.heap.size, 1, none⟩ = some (.slice (some ⟨GK, 0, none⟩) (nthG l0 k).key.length Gd) := (G0_21.out).cell 1
    have cG02 : w21.cell? ⟨w5.heap.size, 2, none⟩ = some (.int .i64 a2) := (G0_21.out).cell 2
    have cG03 : w21.cell? ⟨w5.heap.size, 3, none⟩ = some (.slice (some ⟨GS, Gf, none⟩) Gq.length Ge) := (G0_21.out).cell 3
    have cV00 : w21.cell? ⟨w18.heap.size, 0, none⟩ = some (.int .i64 (nthG l0 k).n) := (V0_21.out).cell 0
    have cV01 : w21.cell? ⟨w18.heap.size, 1, none⟩ = some (.slice (some ⟨VK, 0, none⟩) (nthG l0 k).key.length Vd) := (V0_21.out).cell 1
    have cV02 : w21.cell? ⟨w18.heap.size, 2, none⟩ = some (.int .i64 a2) := (V0_21.out).cell 2
    have cV03 : w21.cell? ⟨w18.heap.size, 3, none⟩ = some (.slice (some ⟨VS, Vf, none⟩) Vq.length Ve) := (V0_21.out).cell 3
    go_wp2_with fail
    refine (Grp.heldBatch_any (nthG l0 k).n a2 GK Gd (nthG l0 k).key GS Gf Ge m4 Gq _ J_21.out GbL.out KL.out QL.out.1 MG.out.1 QL.out.2).mono ?_
    rintro e w22 ⟨rfl, hb⟩
    have B22 : Hid (Below w.heap.size w w22) := grow_on B21.out hb
    have Z22 : Hid (w21.heap.size ≤ w22.heap.size) := hb.size
    have W_22 : Hid (GsB w2.heap.size w22 WM Wc Wr) := W_21.out.grow hb
    have Wb_22 : Hid (GB w2.heap.size w22 WK (nthG l0 k).key WS Wf Wq) := Wb_21.out.grow hb
    have W0_22 : Hid (Blk w22 w3.heap.size #[.int .i64 (nthG l0 k).n, .slice (some ⟨WK, 0, none⟩) (nthG l0 k).key.length Wd, .int .i64 a2, .slice (some ⟨WS, Wf, none⟩) Wq.length We] 55) := W0_21.out.grow hb
    have G0_22 : Hid (Blk w22 w5.heap.size #[.int .i64 (nthG l0 k).n, .slice (some ⟨GK, 0, none⟩) (nthG l0 k).key.length Gd, .int .i64 a2, .slice (some ⟨GS, Gf, none⟩) Gq.length Ge] 55) := G0_21.out.grow hb
    have H_22 : Hid (MR w22 GM Gr 1 Gr.length) := H_21.out.grow hb
    have J_22 : Hid (Grp.GM w22 GK (nthG l0 k).key.length GS Gf Gq m4) := J_21.out.grow hb
    have V_22 : Hid (GsB w17.heap.size w22 VM Vc Vr) := V_21.out.grow hb
    have Vb_22 : Hid (GB w17.heap.size w22 VK (nthG l0 k).key VS Vf Vq) := Vb_21.out.grow hb
    have V0_22 : Hid (Blk w22 w18.heap.size #[.int .i64 (nthG l0 k).n, .slice (some ⟨VK, 0, none⟩) (nthG l0 k).key.length Vd, .int .i64 a2, .slice (some ⟨VS, Vf, none⟩) Vq.length Ve] 55) := V0_21.out.grow hb
    clear hb cW00 cW01 cW02 cW03 cG00 cG01 cG02 cG03 cV00 cV01 cV02 cV03
    clear hq
    have hq : ¬ ((m4 + 2 * (nthG l0 k).key.length + sumA Gq : Nat) : Int) < 0 := by omega
    have cW00 : w22.cell? ⟨w3.heap.size, 0, none⟩ = some (.int .i64 (nthG l0 k).n) := (W0_22.out).cell 0
    have cW01 : w22.cell? ⟨w3.heap.size, 1, none⟩ = some (.slice (some ⟨WK, 0, none⟩) (nthG l0 k).key.length Wd) := (W0_22.out).cell 1
    have cW02 : w22.cell? ⟨w3.heap.size, 2, none⟩ = some (.int .i64 a2) := (W0_22.out).cell 2
    have cW03 : w22.cell? ⟨w3.heap.size, 3, none⟩ = some (.slice (some ⟨WS, Wf, none⟩) Wq.length We) := (W0_22.out).cell 3
    have cG00 : w22.cell? ⟨w5.heap.size, 0, none⟩ = some (.int .i64 (nthG l0 k).n) := (G0_22.out).cell 0
    have cG01 : w22.cell? ⟨w5.heap.size, 1, none⟩ = some (.slice (some ⟨GK, 0, none⟩) (nthG l0 k).key.length Gd) := (G0_22.out).cell 1
    have cG02 : w22.cell? ⟨w5.heap.size, 2, none⟩ = some (.int .i64 a2) := (G0_22.out).cell 2
    have cG03 : w22.cell? ⟨w5.heap.size, 3, none⟩ = some (.slice (some ⟨GS, Gf, none⟩) Gq.length Ge) := (G0_22.out).cell 3
    have cV00 : w22.cell? ⟨w18.heap.size, 0, none⟩ = some (.int .i64 (nthG l0 k).n) := (V0_22.out).cell 0
    have cV01 : w22.cell? ⟨w18.heap.size, 1, none⟩ = some (.slice (some ⟨VK, 0, none⟩) (nthG l0 k).key.length Vd) := (V0_22.out).cell 1
    have cV02 : w22.cell? ⟨w18.heap.size, 2, none⟩ = some (.int .i64 a2) := (V0_22.out).cell 2
    have cV03 : w22.cell? ⟨w18.heap.size, 3, none⟩ = some (.slice (some ⟨VS, Vf, none⟩) Vq.length Ve) := (V0_22.out).cell 3
    go_wp2
    go_ret
    exact ⟨rfl, B22.out⟩
theorem own : ownKnob Try.prog.godebug = none := by kernel_rfl
theorem laidOut : laidOutB Try.prog = true := by kernel_rfl
set_option maxRecDepth 100000 in
theorem lifted (os : Os) (started : os.Started) (H : Type) (enc : TypeId × Value → H) :
    ReturnsInHanded {} Try.checked os 7 .any (Rows.fnExactFlushAtSpec.pre6 enc Try.prog Try.f7 Rows.fnExactFlushAtRow.domain false) (Rows.fnExactFlushAtSpec.post enc Try.prog Try.f7 false true false false) := by
  refine returnsInHanded_of_change (C := Try.checked) own started (by kernel_rfl) Try.func7
    (ChangeSpec.witness6 (enc := enc) (C := Try.checked) false ⟨#[], #[.slice none 0 0, .int .i64 0, .int .i64 0], []⟩ 8 (by kernel_rfl) (by kernel_rfl) (by kernel_rfl) (by kernel_rfl)) ?_
  intro W base args ds gs before hval0 hW hcnd _
  have hval : ∀ (j : Nat) t v, Try.f7.params[j]? = some t → args[j]? = some v → Value.okWide Try.prog W .any base t v := hval0
  have hW' := hW
  obtain ⟨p, q, hA0, hV, rfl, hfz, hnd⟩ := hW
  have hA : DataW.TrodAll enc Try.prog W 0 (fun _ => true) true Try.f7.params.toList args.toList ds p := hA0
  rw [Try.params7] at hA hval
  obtain ⟨v0, vs0, d0, ds0, p0, q0, hargs, rfl, rfl, h0, r0⟩ := trodAll_cons hA
  obtain ⟨v1, vs1, d1, ds1, p1, q1, rfl, rfl, rfl, h1, r1⟩ := trodAll_cons r0
  obtain ⟨v2, vs2, d2, ds2, p2, q2, rfl, rfl, rfl, h2, r2⟩ := trodAll_cons r1
  obtain ⟨rfl, rfl, rfl⟩ := trodAll_nil r2
  obtain rfl : args = #[v0, v1, v2] := by cases args; simp_all
  obtain ⟨rfl, rfl⟩ := trodVars_none hV
  obtain ⟨a0, len0, cap0, rfl⟩ := okWide_slice Try.underlying22 (hval 0 22 v0 rfl rfl)
  have k0 := h0
  have lt0 : ∀ x ∈ p0, x.block < W.heap.size := by obtain ⟨m, hm⟩ := k0; exact DataW.trod_lt m _ _ _ hm
  obtain ⟨l0, rfl, w0, m0, f0⟩ := Go.Proofs.Ytgncimlojbnbfaa.Gps.open_groups h0
  obtain ⟨a1, rfl, rfl, rfl, w1⟩ := open_int Try.underlying3 (hval 1 3 v1 rfl rfl) h1
  obtain ⟨a2, rfl, rfl, rfl, w2⟩ := open_int Try.underlying3 (hval 2 3 v2 rfl rfl) h2
  clear hA0 hval0
  refine (walk a0 cap0 l0 a1 a2 W w0 m0 f0 w1 w2).mono fun e W' ⟨he, bel⟩ => ?_
  subst he
  exact ⟨_, rfl, _, _, _, [], _, [], hW', trodAll_mk1 (shut_bool Try.underlying4 _), (trodAll_cons_mk (Below.trod laidOut (by kernel_rfl) (of_decide_eq_true (by kernel_rfl)) k0 bel lt0) (trodAll_cons_mk (shut_int Try.underlying3 w1) (trodAll_cons_mk (shut_int Try.underlying3 w2) trodAll_mk0))), rfl, bel.frame _, fun h => by cases h⟩

theorem over : Rows.fnExactFlushAtRow.holds Try.pinned (OpenSpec.ofChange Rows.fnExactFlushAtSpec) :=
  OpenClaim.holds_of_wide 7 Try.f7 rfl rfl rfl rfl rfl rfl rfl ⟨rfl, rfl, rfl, rfl, rfl⟩ rfl rfl rfl rfl rfl (by kernel_rfl) Try.func7 (by kernel_rfl)
    (of_decide_eq_true (by kernel_rfl)) (by unfold Func.isWrapper; first | (rw [if_pos (by decide +kernel)]; kernel_rfl) | (rw [if_neg (by decide +kernel)]; exact ⟨rfl, rfl⟩))
    (fun os started H enc _ => lifted os started H enc)

end Go.Proofs.Ytgncimlojbnbfaa.FnExactFlushAt
namespace Go.Proofs.Ytgncimlojbnbfaa
theorem fnExactFlushAt_holds : Rows.FnExactFlushAtSaid := FnExactFlushAt.over
#print axioms fnExactFlushAt_holds
end Go.Proofs.Ytgncimlojbnbfaa
