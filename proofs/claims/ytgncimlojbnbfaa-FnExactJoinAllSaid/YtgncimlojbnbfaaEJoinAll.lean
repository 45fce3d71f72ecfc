/-
  PROVED: at every slice of groups, every alarm, every slice of strings and all numbers impl.JoinAll answers as spec.JoinAll, leaves them as they were, keeps nothing of them, and its answer lies in memory of its own, so the law laws.FnExactJoinAll returns true, whatever its arguments. No condition.
-/
import Derived.Test.YtgncimlojbnbfaaRows
import Derived.WalkKit
import Derived.ProofKit
import Derived.OpenShut
import Derived.ShutString
import Derived.ChangeOld
import Derived.Below
import Derived.WalkLawsBesides
import Derived.WalkSpells
import Derived.Test.YtgncimlojbnbfaaGpIj
import Derived.Test.YtgncimlojbnbfaaGpM
import Derived.Test.YtgncimlojbnbfaaGpX
import Derived.Test.YtgncimlojbnbfaaAlmK
import Derived.Deep.RegionHeld3
namespace Go.Proofs.Ytgncimlojbnbfaa.FnExactJoinAll
open Go.ChangeShapes Go.WideShapes Go.ChangeAt Go.RowKit
open Go.ChangeMaps (open_string shut_string)
set_option linter.unusedVariables false

open Go.Proofs.Ytgncimlojbnbfaa.Labs Go.Proofs.Ytgncimlojbnbfaa.LabS Go.Proofs.Ytgncimlojbnbfaa.Over Go.Proofs.Ytgncimlojbnbfaa.Blk Go.Proofs.Ytgncimlojbnbfaa.Alms Go.Proofs.Ytgncimlojbnbfaa.Rws Go.Proofs.Ytgncimlojbnbfaa.ChnC Go.Proofs.Ytgncimlojbnbfaa.ChnK Go.Proofs.Ytgncimlojbnbfaa.Grp Go.Proofs.Ytgncimlojbnbfaa.Gps Go.Proofs.Ytgncimlojbnbfaa.GpD Go.Proofs.Ytgncimlojbnbfaa.GpC Go.Proofs.Ytgncimlojbnbfaa.GpM Go.Proofs.Ytgncimlojbnbfaa.GpX Go.Proofs.Ytgncimlojbnbfaa.GpJ
open Go.Proofs.Ytgncimlojbnbfaa.Alm (AlIn)
open Go.Proofs.Ytgncimlojbnbfaa.Pro (RdS)
open Go.Proofs.Ytgncimlojbnbfaa.StrT (FitsS heldS_reads HeldS)
open Go.Proofs.Ytgncimlojbnbfaa.LabT (held_reads)
open Go.Proofs.Ytgncimlojbnbfaa.Mark (Apart Marked)
theorem rdN {lo : Nat} {w : World} {M c : Nat} {us : List GRow} {U : List PGr} (h : GsB lo w M c us) (hp : grs us = U) (hc : CapsG us) : RdGs GN w (some ⟨M, 0, none⟩) U := by have := h.rn hc; rwa [hp] at this
theorem rdA {lo : Nat} {w : World} {M c : Nat} {us : List GRow} {U : List PGr} (h : GsB lo w M c us) (hp : grs us = U) : RdGs GA w (some ⟨M, 0, none⟩) U := by have := h.rd; rwa [hp] at this
theorem len_g {us : List GRow} {U : List PGr} (h : grs us = U) : us.length = U.length := by rw [← grs_len, h]
theorem rngG {lo : Nat} {w : World} {M c : Nat} {us : List GRow} (h : GsB lo w M c us) : ∀ k, blksG M us k → lo ≤ k ∧ k < w.heap.size := fun k hk => ⟨blksG_low h k hk, blksG_high h k hk⟩
theorem rowsG {lo : Nat} {w : World} {M c : Nat} {us : List GRow} {n : Nat} (h : GsB lo w M c us) (hn : ∀ u ∈ grs us, u.P.length ≤ n ∧ u.key.length ≤ 1048576) (h2 : n ≤ 2000000) : ∀ x ∈ us, x.rs.length ≤ 2000000 ∧ x.key.length ≤ 1048576 ∧ ∀ y ∈ x.rs, y.2.2.l.length ≤ 1048576 := fun x hx => by
  have h1 := hn x.gr (by unfold grs; exact List.mem_map.2 ⟨x, hx, rfl⟩)
  have h3 : x.gr.P.length = x.rs.length := pals_len x.rs
  have h4 : x.gr.key = x.key := rfl
  rw [h4] at h1
  exact ⟨by omega, h1.2, (h.rows.rows x hx).len⟩
theorem eqL_any (M M' c c' lo lo' d d' : Nat) (us us' : List GRow) (U : List PGr) (w : World) (h : GsB lo w M d us) (h' : GsB lo' w M' d' us') (hp : grs us = U) (hp' : grs us' = U) (hl : U.length ≤ maxLen) (hz : FitsG U) :
    Calls Try.prog 14 #[.slice (some ⟨M, 0, none⟩) us.length c, .slice (some ⟨M', 0, none⟩) us'.length c'] w fun e w' => e = .returned (.bool true) ∧ Below w.heap.size w w' := by
  have h1 := rdA h hp
  have h2 := rdA h' hp'
  rw [len_g hp, len_g hp']
  exact Gps.eqGs_any _ _ c c' U w h1 h2 hl hz
theorem each_of {U : List PGr} (h : sumG U ≤ 1048576) : ∀ y ∈ U, y.P.length ≤ 1048576 ∧ y.key.length ≤ 1048576 := fun y hy => by
  have h1 := small_of h y hy
  exact ⟨h1.2.1, h1.1⟩
set_option maxRecDepth 100000 in
set_option maxHeartbeats 8000000 in
theorem walk (a0 : Option Addr) (cap0 : Nat) (l0 : List PGr) (a1 : Option Addr) (cap1 : Nat) (l1 : List Lab) (s1 e1 : Int) (n1 : ByteArray) (a2 : Option Addr) (cap2 : Nat) (l2 : List ByteArray) (a3 : Int) (a4 : Int) (w : World) (r0 : RdGs GA w a0 l0) (m0 : l0.length ≤ maxLen) (z0 : FitsG l0) (g1 : AlIn w a1 l1 s1 e1 n1) (r2 : RdS w a2 l2) (m2 : l2.length ≤ maxLen) (z2 : FitsS l2) (_v3 : (Lit.int .i64 a3).wf = true) (_v4 : (Lit.int .i64 a4).wf = true) :
    Calls Try.prog 6 #[.slice a0 l0.length cap0, .agg #[.slice a1 l1.length cap1, .int .i64 s1, .int .i64 e1, .string n1], .slice a2 l2.length cap2, .int .i64 a3, .int .i64 a4] w fun e w' => e = .returned (.bool true) ∧ Below w.heap.size w w' := by
  have R0 : Hid (RdGs GA w a0 l0) := r0
  have M0 : Hid (l0.length ≤ maxLen) := m0
  have F0 : Hid (FitsG l0) := z0
  clear r0 m0 z0
  have R1 : Hid (Reads w a1 l1) := g1.reads
  have M1 : Hid (l1.length ≤ maxLen) := g1.len
  have G1 : Hid (AlIn w a1 l1 s1 e1 n1) := g1
  clear g1
  have R2 : Hid (RdS w a2 l2) := r2
  have M2 : Hid (l2.length ≤ maxLen) := m2
  have F2 : Hid (FitsS l2) := z2
  clear r2 m2 z2
  have B0 : Hid (Below w.heap.size w w) := Below.refl _ _
  go_enter Try.func6, Try.ntmps6
  go_wp2_with fail
  refine (Gps.szGs_any a0 cap0 l0 1048576 _ (R0.out.below stays_ga (grow_on B0.out (Go.Joins.below_alloc1 w _))) M0.out F0.out (by omega) (by omega)).mono ?_
  rintro e w1 ⟨⟨k0, rfl, p0, hn⟩, hb⟩
  have P1_1 : Hid (Blk w1 w.heap.size #[.slice a1 l1.length cap1, .int .i64 s1, .int .i64 e1, .string n1] 43) := (Blk.new _ _ _).grow hb
  have U_P1 : Hid (w.heap.size ≤ w.heap.size ∧ w.heap.size < w1.heap.size) := ⟨by omega, P1_1.out.lt⟩
  replace hb := grow_on (Go.Joins.below_alloc1 w _) hb
  have B1 : Hid (Below w.heap.size w w1) := grow_on B0.out hb
  have Z1 : Hid (w.heap.size ≤ w1.heap.size) := hb.size
  clear hb
  by_cases g0 : k0 < 0
  · clear hn
    go_wp2
    go_ret
    exact ⟨rfl, B1.out⟩
  have K0 : Hid (l0.length ≤ 1048576 ∧ sumG l0 ≤ 1048576 ∧ k0 + l0.length + sumG l0 ≤ 1048576) := by have := hn (by omega); exact ⟨by omega, by omega, by omega⟩
  have N0 : Hid (SmallG l0) := small_of K0.out.2.1
  clear hn
  have cP10 : w1.cell? ⟨w.heap.size, 0, none⟩ = some (.slice a1 l1.length cap1) := (P1_1.out).cell 0
  have cP11 : w1.cell? ⟨w.heap.size, 1, none⟩ = some (.int .i64 s1) := (P1_1.out).cell 1
  have cP12 : w1.cell? ⟨w.heap.size, 2, none⟩ = some (.int .i64 e1) := (P1_1.out).cell 2
  have cP13 : w1.cell? ⟨w.heap.size, 3, none⟩ = some (.string n1) := (P1_1.out).cell 3
  go_wp2_with fail
  refine (Alm.sz_any a1 cap1 l1 s1 e1 n1 k0 _ (G1.out.below B1.out) (by omega) (by omega)).mono ?_
  rintro e w2 ⟨⟨k1, rfl, p1, hn⟩, hb⟩
  have B2 : Hid (Below w.heap.size w w2) := grow_on B1.out hb
  have Z2 : Hid (w1.heap.size ≤ w2.heap.size) := hb.size
  have P1_2 : Hid (Blk w2 w.heap.size #[.slice a1 l1.length cap1, .int .i64 s1, .int .i64 e1, .string n1] 43) := P1_1.out.grow hb
  clear hb cP10 cP11 cP12 cP13
  by_cases g1 : k1 < 0
  · clear hn
    go_wp2
    go_ret
    exact ⟨rfl, B2.out⟩
  have K1 : Hid (l1.length ≤ 1048576) := by have := hn (by omega); show l1.length ≤ 1048576; omega
  have K01 : Hid (l0.length + sumG l0 + l1.length ≤ 1048576) := by have := hn (by omega); have := K0.out.2.2; show _ ≤ _; omega
  clear hn
  have cP10 : w2.cell? ⟨w.heap.size, 0, none⟩ = some (.slice a1 l1.length cap1) := (P1_2.out).cell 0
  have cP11 : w2.cell? ⟨w.heap.size, 1, none⟩ = some (.int .i64 s1) := (P1_2.out).cell 1
  have cP12 : w2.cell? ⟨w.heap.size, 2, none⟩ = some (.int .i64 e1) := (P1_2.out).cell 2
  have cP13 : w2.cell? ⟨w.heap.size, 3, none⟩ = some (.string n1) := (P1_2.out).cell 3
  go_wp2_with fail
  refine (StrT.sz_any a2 cap2 l2 k1 _ (R2.out.below B2.out) M2.out F2.out (by omega) (by omega)).mono ?_
  rintro e w3 ⟨⟨k2, rfl, p2, hn⟩, hb⟩
  have B3 : Hid (Below w.heap.size w w3) := grow_on B2.out hb
  have Z3 : Hid (w2.heap.size ≤ w3.heap.size) := hb.size
  have P1_3 : Hid (Blk w3 w.heap.size #[.slice a1 l1.length cap1, .int .i64 s1, .int .i64 e1, .string n1] 43) := P1_2.out.grow hb
  clear hb cP10 cP11 cP12 cP13
  by_cases g2 : k2 < 0
  · clear hn
    go_wp2
    go_ret
    exact ⟨rfl, B3.out⟩
  have K2 : Hid (l2.length ≤ 1048576) := by have := hn (by omega); show l2.length ≤ 1048576; omega
  clear hn
  have PL : Hid ((joinAllG l0 (⟨l1, s1, e1, n1⟩ : PAl) l2 a3 a4).length ≤ maxLen ∧ FitsG (joinAllG l0 (⟨l1, s1, e1, n1⟩ : PAl) l2 a3 a4) ∧ (joinAllG l0 (⟨l1, s1, e1, n1⟩ : PAl) l2 a3 a4).length ≤ l0.length + 1) := by
    have h1 := joinA_sum l0 (⟨l1, s1, e1, n1⟩ : PAl) l2 a3 a4
    have h2 := K0.out
    refine ⟨by unfold maxLen; omega, joinA_fits F0.out ⟨M1.out, G1.out.fits, G1.out.sb, G1.out.eb, G1.out.note⟩ (fun y hy => (N0.out y hy).2.1), h1.1⟩
  have PS : Hid (sumG (joinAllG l0 (⟨l1, s1, e1, n1⟩ : PAl) l2 a3 a4) ≤ sumG l0 + 1 + 2 * l1.length) := (joinA_sum l0 (⟨l1, s1, e1, n1⟩ : PAl) l2 a3 a4).2
  have PE : Hid (∀ y ∈ (joinAllG l0 (⟨l1, s1, e1, n1⟩ : PAl) l2 a3 a4), y.P.length ≤ 1048577 ∧ y.key.length ≤ 1048576) := joinA_each (fun y hy => ⟨(N0.out y hy).2.1, (N0.out y hy).1⟩) K1.out
  have JG : Hid (∀ y ∈ l0, (GrpJ.joinG y.P (⟨l1, s1, e1, n1⟩ : PAl)).length ≤ 1048576) := fun y hy => by
    have h1 := GrpJ.join_len y.P (⟨l1, s1, e1, n1⟩ : PAl)
    have h2 := sumG_mem hy
    have h3 := List.length_pos_of_mem hy
    have h4 := K01.out
    unfold oneG at h2
    omega
  have cP10 : w3.cell? ⟨w.heap.size, 0, none⟩ = some (.slice a1 l1.length cap1) := (P1_3.out).cell 0
  have cP11 : w3.cell? ⟨w.heap.size, 1, none⟩ = some (.int .i64 s1) := (P1_3.out).cell 1
  have cP12 : w3.cell? ⟨w.heap.size, 2, none⟩ = some (.int .i64 e1) := (P1_3.out).cell 2
  have cP13 : w3.cell? ⟨w.heap.size, 3, none⟩ = some (.string n1) := (P1_3.out).cell 3
  go_wp2
  have kz : Below w3.heap.size w3 w3.drew := (Below.refl _ _).drew
  have kP1 := P1_3.out.lt
  have HS : Hid (∀ w', Below w3.heap.size w3 w' → Below w3.heap.size w3 w' ∧ w'.cell? ⟨w.heap.size, 0, none⟩ = some (.slice a1 l1.length cap1) ∧ w'.cell? ⟨w.heap.size, 1, none⟩ = some (.int .i64 s1) ∧ w'.cell? ⟨w.heap.size, 2, none⟩ = some (.int .i64 e1) ∧ w'.cell? ⟨w.heap.size, 3, none⟩ = some (.string n1)) := fun w' h => ⟨h, (h.cell kP1).trans cP10, (h.cell kP1).trans cP11, (h.cell kP1).trans cP12, (h.cell kP1).trans cP13⟩
  go_region_held3 (fun w' => Below w3.heap.size w3 w' ∧ w'.cell? ⟨w.heap.size, 0, none⟩ = some (.slice a1 l1.length cap1) ∧ w'.cell? ⟨w.heap.size, 1, none⟩ = some (.int .i64 s1) ∧ w'.cell? ⟨w.heap.size, 2, none⟩ = some (.int .i64 e1) ∧ w'.cell? ⟨w.heap.size, 3, none⟩ = some (.string n1)) (first | with_reducible exact HS.out _ kz | with_reducible exact HS.out _ (grow_on kz hy0) | with_reducible exact HS.out _ (grow_on (grow_on kz hy0) hy1) | with_reducible exact HS.out _ (grow_on (grow_on (grow_on kz hy0) hy1) hy2) | with_reducible exact HS.out _ (grow_on (grow_on (grow_on (grow_on kz hy0) hy1) hy2) hy3) | (go_keep; done)) (first | (go_at_call 11; with_reducible refine (Gps.toGs_any a0 cap0 l0 _ (R0.out.below stays_ga (grow_on B3.out kz)) K0.out.1 K0.out.2.1).mono ?_; rintro e wy0 ⟨rfl, ⟨T0r, hA0, hP0, hC0⟩, hy0⟩) | (go_at_call 25; with_reducible refine (Alm.to_any a1 cap1 l1 s1 e1 n1 _ (R1.out.below (grow_on B3.out (grow_on kz hy0))) K1.out).mono ?_; rintro e wy1 ⟨⟨T1M, T1cs, rfl, -, hk1, -, hh1⟩, hy1⟩) | (go_at_call 12; with_reducible refine (StrT.to_any a2 cap2 l2 _ (R2.out.below (grow_on B3.out (grow_on (grow_on kz hy0) hy1))) K2.out).mono ?_; rintro e wy2 ⟨rfl, ⟨T2cs, hk2, hs2, hh2⟩, hy2⟩) | (go_at_call 24; refine (GpJ.specJoinA_any _ _ _ _ l0 l2 _ 0 _ (⟨l1, s1, e1, n1⟩ : PAl) a3 a4 _ ((rdN hA0 hP0 hC0).below stays_gn (grow_on hy1 hy2)) K0.out.1 N0.out ((held_reads hk1 hh1).below hy2) K1.out (heldS_reads hk2 hh2) M2.out).mono ?_; rintro e w4 ⟨⟨WM, Wc, Wr, rfl, hA, hP, hC⟩, hy3⟩))
  have hb := (grow_on (grow_on (grow_on (grow_on kz hy0) hy1) hy2) hy3)
  have W_4 : Hid (GsB w3.heap.size w4 WM Wc Wr) := hA.down (grow_on (grow_on (grow_on kz hy0) hy1) hy2).size
  have WP : Hid (grs Wr = joinAllG l0 (⟨l1, s1, e1, n1⟩ : PAl) l2 a3 a4) := hP
  have WR : Hid (∀ k, blksG WM Wr k → w3.heap.size ≤ k ∧ k < w4.heap.size) := rngG W_4.out
  clear hA hP
  have B4 : Hid (Below w.heap.size w w4) := grow_on B3.out hb
  have Z4 : Hid (w3.heap.size ≤ w4.heap.size) := hb.size
  have P1_4 : Hid (Blk w4 w.heap.size #[.slice a1 l1.length cap1, .int .i64 s1, .int .i64 e1, .string n1] 43) := P1_3.out.grow hb
  clear hb kz HS hy0 hy1 hy2 hy3 kP1 cP10 cP11 cP12 cP13 hA0 hP0 hC0 hk1 hh1 hk2 hs2 hh2 hC
  have cP10 : w4.cell? ⟨w.heap.size, 0, none⟩ = some (.slice a1 l1.length cap1) := (P1_4.out).cell 0
  have cP11 : w4.cell? ⟨w.heap.size, 1, none⟩ = some (.int .i64 s1) := (P1_4.out).cell 1
  have cP12 : w4.cell? ⟨w.heap.size, 2, none⟩ = some (.int .i64 e1) := (P1_4.out).cell 2
  have cP13 : w4.cell? ⟨w.heap.size, 3, none⟩ = some (.string n1) := (P1_4.out).cell 3
  go_wp2_with fail
  refine (Gps.toGs_any a0 cap0 l0 _ (R0.out.below stays_ga B4.out) K0.out.1 K0.out.2.1).mono ?_
  rintro e w5 ⟨rfl, ⟨Xr, hA, hP, hC⟩, hb⟩
  have X_5 : Hid (GsB w4.heap.size w5 w4.heap.size l0.length Xr) := hA
  have XP : Hid (grs Xr = l0) := hP
  have XC : Hid (CapsG Xr) := hC
  have XR : Hid (∀ k, blksG w4.heap.size Xr k → w4.heap.size ≤ k ∧ k < w5.heap.size) := rngG hA
  clear hA hP hC
  have B5 : Hid (Below w.heap.size w w5) := grow_on B4.out hb
  have Z5 : Hid (w4.heap.size ≤ w5.heap.size) := hb.size
  have P1_5 : Hid (Blk w5 w.heap.size #[.slice a1 l1.length cap1, .int .i64 s1, .int .i64 e1, .string n1] 43) := P1_4.out.grow hb
  have W_5 : Hid (GsB w3.heap.size w5 WM Wc Wr) := W_4.out.grow hb
  clear hb cP10 cP11 cP12 cP13
  have cP10 : w5.cell? ⟨w.heap.size, 0, none⟩ = some (.slice a1 l1.length cap1) := (P1_5.out).cell 0
  have cP11 : w5.cell? ⟨w.heap.size, 1, none⟩ = some (.int .i64 s1) := (P1_5.out).cell 1
  have cP12 : w5.cell? ⟨w.heap.size, 2, none⟩ = some (.int .i64 e1) := (P1_5.out).cell 2
  have cP13 : w5.cell? ⟨w.heap.size, 3, none⟩ = some (.string n1) := (P1_5.out).cell 3
  go_wp2_with fail
  refine (Alm.to_any a1 cap1 l1 s1 e1 n1 _ (R1.out.below B5.out) K1.out).mono ?_
  rintro e w6 ⟨⟨YM, Ycs, rfl, hXM, hk, hs, hh⟩, hb⟩
  have Y_6 : Hid (Blk w6 YM Ycs 73) := hk
  have Ys : Hid (Ycs.size = l1.length * 2) := hs
  have Yh : Hid (LabT.Held Ycs l1 l1.length) := hh
  have U_Y : Hid (w5.heap.size ≤ YM ∧ YM < w6.heap.size) := ⟨by first | exact hXM | omega, hk.lt⟩
  clear hk hs hh hXM
  have B6 : Hid (Below w.heap.size w w6) := grow_on B5.out hb
  have Z6 : Hid (w5.heap.size ≤ w6.heap.size) := hb.size
  have P1_6 : Hid (Blk w6 w.heap.size #[.slice a1 l1.length cap1, .int .i64 s1, .int .i64 e1, .string n1] 43) := P1_5.out.grow hb
  have W_6 : Hid (GsB w3.heap.size w6 WM Wc Wr) := W_5.out.grow hb
  have X_6 : Hid (GsB w4.heap.size w6 w4.heap.size l0.length Xr) := X_5.out.grow hb
  clear hb cP10 cP11 cP12 cP13
  have cP10 : (w6.alloc (.cells #[.slice (some ⟨YM, 0, none⟩) l1.length l1.length, .int .i64 s1, .int .i64 e1, .string n1] 48)).cell? ⟨w.heap.size, 0, none⟩ = some (.slice a1 l1.length cap1) := ((P1_6.out.alloc _)).cell 0
  have cP11 : (w6.alloc (.cells #[.slice (some ⟨YM, 0, none⟩) l1.length l1.length, .int .i64 s1, .int .i64 e1, .string n1] 48)).cell? ⟨w.heap.size, 1, none⟩ = some (.int .i64 s1) := ((P1_6.out.alloc _)).cell 1
  have cP12 : (w6.alloc (.cells #[.slice (some ⟨YM, 0, none⟩) l1.length l1.length, .int .i64 s1, .int .i64 e1, .string n1] 48)).cell? ⟨w.heap.size, 2, none⟩ = some (.int .i64 e1) := ((P1_6.out.alloc _)).cell 2
  have cP13 : (w6.alloc (.cells #[.slice (some ⟨YM, 0, none⟩) l1.length l1.length, .int .i64 s1, .int .i64 e1, .string n1] 48)).cell? ⟨w.heap.size, 3, none⟩ = some (.string n1) := ((P1_6.out.alloc _)).cell 3
  go_wp2_with fail
  refine (StrT.to_any a2 cap2 l2 _ (R2.out.below (grow_on B6.out (Go.Joins.below_alloc1 w6 _))) K2.out).mono ?_
  rintro e w7 ⟨rfl, ⟨Tcs, hk, hs, hh⟩, hb⟩
  have T_7 : Hid (Blk w7 (w6.heap.size + 1) Tcs 9) := by show Blk _ _ _ _; simpa using hk
  have Ts : Hid (l2.length ≤ Tcs.size) := by first | exact hs | (have h := hs; unfold Hid; omega)
  have Th : Hid (HeldS Tcs l2) := hh
  have U_T : Hid (w6.heap.size < (w6.heap.size + 1) ∧ (w6.heap.size + 1) < w7.heap.size) := ⟨by omega, T_7.out.lt⟩
  clear hk hs hh
  have Q1_7 : Hid (Blk w7 w6.heap.size #[.slice (some ⟨YM, 0, none⟩) l1.length l1.length, .int .i64 s1, .int .i64 e1, .string n1] 48) := (Blk.new _ _ _).grow hb
  have U_Q1 : Hid (w6.heap.size ≤ w6.heap.size ∧ w6.heap.size < w7.heap.size) := ⟨by omega, Q1_7.out.lt⟩
  replace hb := grow_on (Go.Joins.below_alloc1 w6 _) hb
  have B7 : Hid (Below w.heap.size w w7) := grow_on B6.out hb
  have Z7 : Hid (w6.heap.size ≤ w7.heap.size) := hb.size
  have P1_7 : Hid (Blk w7 w.heap.size #[.slice a1 l1.length cap1, .int .i64 s1, .int .i64 e1, .string n1] 43) := P1_6.out.grow hb
  have W_7 : Hid (GsB w3.heap.size w7 WM Wc Wr) := W_6.out.grow hb
  have X_7 : Hid (GsB w4.heap.size w7 w4.heap.size l0.length Xr) := X_6.out.grow hb
  have Y_7 : Hid (Blk w7 YM Ycs 73) := Y_6.out.grow hb
  clear hb cP10 cP11 cP12 cP13
  have cap_l : l0.length ≤ l0.length ∧ l0.length ≤ maxLen := ⟨Nat.le_refl _, M0.out⟩
  have cP10 : w7.cell? ⟨w.heap.size, 0, none⟩ = some (.slice a1 l1.length cap1) := (P1_7.out).cell 0
  have cP11 : w7.cell? ⟨w.heap.size, 1, none⟩ = some (.int .i64 s1) := (P1_7.out).cell 1
  have cP12 : w7.cell? ⟨w.heap.size, 2, none⟩ = some (.int .i64 e1) := (P1_7.out).cell 2
  have cP13 : w7.cell? ⟨w.heap.size, 3, none⟩ = some (.string n1) := (P1_7.out).cell 3
  have cQ10 : w7.cell? ⟨w6.heap.size, 0, none⟩ = some (.slice (some ⟨YM, 0, none⟩) l1.length l1.length) := (Q1_7.out).cell 0
  have cQ11 : w7.cell? ⟨w6.heap.size, 1, none⟩ = some (.int .i64 s1) := (Q1_7.out).cell 1
  have cQ12 : w7.cell? ⟨w6.heap.size, 2, none⟩ = some (.int .i64 e1) := (Q1_7.out).cell 2
  have cQ13 : w7.cell? ⟨w6.heap.size, 3, none⟩ = some (.string n1) := (Q1_7.out).cell 3
  go_wp2_with fail
  refine (GpIj.implJoinA_any _ _ _ _ l0 l2 _ 0 _ (⟨l1, s1, e1, n1⟩ : PAl) a3 a4 _ (rdN X_7.out XP.out XC.out) K0.out.1 cap_l N0.out (held_reads Y_7.out Yh.out) K1.out (heldS_reads T_7.out Th.out) M2.out JG.out).mono ?_
  rintro e w8 ⟨⟨GM, Gc, Gr, rfl, hA, hP⟩, hb⟩
  have G_8 : Hid (GsB w7.heap.size w8 GM Gc Gr) := hA
  have GP : Hid (grs Gr = (joinAllG l0 (⟨l1, s1, e1, n1⟩ : PAl) l2 a3 a4)) := hP
  have GR : Hid (∀ k, blksG GM Gr k → w7.heap.size ≤ k ∧ k < w8.heap.size) := rngG hA
  have GL : Hid (∀ x ∈ Gr, x.rs.length ≤ 2000000 ∧ x.key.length ≤ 1048576 ∧ ∀ y ∈ x.rs, y.2.2.l.length ≤ 1048576) := rowsG hA (by rw [hP]; exact PE.out) (by omega)
  clear hA hP cap_l
  have B8 : Hid (Below w.heap.size w w8) := grow_on B7.out hb
  have Z8 : Hid (w7.heap.size ≤ w8.heap.size) := hb.size
  have P1_8 : Hid (Blk w8 w.heap.size #[.slice a1 l1.length cap1, .int .i64 s1, .int .i64 e1, .string n1] 43) := P1_7.out.grow hb
  have W_8 : Hid (GsB w3.heap.size w8 WM Wc Wr) := W_7.out.grow hb
  have X_8 : Hid (GsB w4.heap.size w8 w4.heap.size l0.length Xr) := X_7.out.grow hb
  have Y_8 : Hid (Blk w8 YM Ycs 73) := Y_7.out.grow hb
  have Q1_8 : Hid (Blk w8 w6.heap.size #[.slice (some ⟨YM, 0, none⟩) l1.length l1.length, .int .i64 s1, .int .i64 e1, .string n1] 48) := Q1_7.out.grow hb
  have T_8 : Hid (Blk w8 (w6.heap.size + 1) Tcs 9) := T_7.out.grow hb
  clear hb cP10 cP11 cP12 cP13 cQ10 cQ11 cQ12 cQ13
  have hbb : (GpJ.newJ l0 (⟨l1, s1, e1, n1⟩ : PAl) l2 != GpJ.newJ l0 (⟨l1, s1, e1, n1⟩ : PAl) l2) = false := bne_self_eq_false _
  have cP10 : w8.cell? ⟨w.heap.size, 0, none⟩ = some (.slice a1 l1.length cap1) := (P1_8.out).cell 0
  have cP11 : w8.cell? ⟨w.heap.size, 1, none⟩ = some (.int .i64 s1) := (P1_8.out).cell 1
  have cP12 : w8.cell? ⟨w.heap.size, 2, none⟩ = some (.int .i64 e1) := (P1_8.out).cell 2
  have cP13 : w8.cell? ⟨w.heap.size, 3, none⟩ = some (.string n1) := (P1_8.out).cell 3
  have cQ10 : w8.cell? ⟨w6.heap.size, 0, none⟩ = some (.slice (some ⟨YM, 0, none⟩) l1.length l1.length) := (Q1_8.out).cell 0
  have cQ11 : w8.cell? ⟨w6.heap.size, 1, none⟩ = some (.int .i64 s1) := (Q1_8.out).cell 1
  have cQ12 : w8.cell? ⟨w6.heap.size, 2, none⟩ = some (.int .i64 e1) := (Q1_8.out).cell 2
  have cQ13 : w8.cell? ⟨w6.heap.size, 3, none⟩ = some (.string n1) := (Q1_8.out).cell 3
  go_wp2_with fail
  refine (eqL_any _ _ _ _ _ _ _ _ Gr Wr _ _ G_8.out W_8.out GP.out WP.out PL.out.1 PL.out.2.1).mono ?_
  rintro e w9 ⟨rfl, hb⟩
  have B9 : Hid (Below w.heap.size w w9) := grow_on B8.out hb
  have Z9 : Hid (w8.heap.size ≤ w9.heap.size) := hb.size
  have P1_9 : Hid (Blk w9 w.heap.size #[.slice a1 l1.length cap1, .int .i64 s1, .int .i64 e1, .string n1] 43) := P1_8.out.grow hb
  have W_9 : Hid (GsB w3.heap.size w9 WM Wc Wr) := W_8.out.grow hb
  have X_9 : Hid (GsB w4.heap.size w9 w4.heap.size l0.length Xr) := X_8.out.grow hb
  have Y_9 : Hid (Blk w9 YM Ycs 73) := Y_8.out.grow hb
  have Q1_9 : Hid (Blk w9 w6.heap.size #[.slice (some ⟨YM, 0, none⟩) l1.length l1.length, .int .i64 s1, .int .i64 e1, .string n1] 48) := Q1_8.out.grow hb
  have T_9 : Hid (Blk w9 (w6.heap.size + 1) Tcs 9) := T_8.out.grow hb
  have G_9 : Hid (GsB w7.heap.size w9 GM Gc Gr) := G_8.out.grow hb
  clear hb cP10 cP11 cP12 cP13 cQ10 cQ11 cQ12 cQ13
  have cP10 : w9.cell? ⟨w.heap.size, 0, none⟩ = some (.slice a1 l1.length cap1) := (P1_9.out).cell 0
  have cP11 : w9.cell? ⟨w.heap.size, 1, none⟩ = some (.int .i64 s1) := (P1_9.out).cell 1
  have cP12 : w9.cell? ⟨w.heap.size, 2, none⟩ = some (.int .i64 e1) := (P1_9.out).cell 2
  have cP13 : w9.cell? ⟨w.heap.size, 3, none⟩ = some (.string n1) := (P1_9.out).cell 3
  have cQ10 : w9.cell? ⟨w6.heap.size, 0, none⟩ = some (.slice (some ⟨YM, 0, none⟩) l1.length l1.length) := (Q1_9.out).cell 0
  have cQ11 : w9.cell? ⟨w6.heap.size, 1, none⟩ = some (.int .i64 s1) := (Q1_9.out).cell 1
  have cQ12 : w9.cell? ⟨w6.heap.size, 2, none⟩ = some (.int .i64 e1) := (Q1_9.out).cell 2
  have cQ13 : w9.cell? ⟨w6.heap.size, 3, none⟩ = some (.string n1) := (Q1_9.out).cell 3
  go_wp2_with fail
  refine (Gps.toGs_any a0 cap0 l0 _ (R0.out.below stays_ga B9.out) K0.out.1 K0.out.2.1).mono ?_
  rintro e w10 ⟨rfl, ⟨Er, hA, hP, hC⟩, hb⟩
  have E_10 : Hid (GsB w9.heap.size w10 w9.heap.size l0.length Er) := hA
  have EP : Hid (grs Er = l0) := hP
  have EC : Hid (CapsG Er) := hC
  have ER : Hid (∀ k, blksG w9.heap.size Er k → w9.heap.size ≤ k ∧ k < w10.heap.size) := rngG hA
  clear hA hP hC
  have B10 : Hid (Below w.heap.size w w10) := grow_on B9.out hb
  have Z10 : Hid (w9.heap.size ≤ w10.heap.size) := hb.size
  have P1_10 : Hid (Blk w10 w.heap.size #[.slice a1 l1.length cap1, .int .i64 s1, .int .i64 e1, .string n1] 43) := P1_9.out.grow hb
  have W_10 : Hid (GsB w3.heap.size w10 WM Wc Wr) := W_9.out.grow hb
  have X_10 : Hid (GsB w4.heap.size w10 w4.heap.size l0.length Xr) := X_9.out.grow hb
  have Y_10 : Hid (Blk w10 YM Ycs 73) := Y_9.out.grow hb
  have Q1_10 : Hid (Blk w10 w6.heap.size #[.slice (some ⟨YM, 0, none⟩) l1.length l1.length, .int .i64 s1, .int .i64 e1, .string n1] 48) := Q1_9.out.grow hb
  have T_10 : Hid (Blk w10 (w6.heap.size + 1) Tcs 9) := T_9.out.grow hb
  have G_10 : Hid (GsB w7.heap.size w10 GM Gc Gr) := G_9.out.grow hb
  clear hb cP10 cP11 cP12 cP13 cQ10 cQ11 cQ12 cQ13
  have cP10 : w10.cell? ⟨w.heap.size, 0, none⟩ = some (.slice a1 l1.length cap1) := (P1_10.out).cell 0
  have cP11 : w10.cell? ⟨w.heap.size, 1, none⟩ = some (.int .i64 s1) := (P1_10.out).cell 1
  have cP12 : w10.cell? ⟨w.heap.size, 2, none⟩ = some (.int .i64 e1) := (P1_10.out).cell 2
  have cP13 : w10.cell? ⟨w.heap.size, 3, none⟩ = some (.string n1) := (P1_10.out).cell 3
  have cQ10 : w10.cell? ⟨w6.heap.size, 0, none⟩ = some (.slice (some ⟨YM, 0, none⟩) l1.length l1.length) := (Q1_10.out).cell 0
  have cQ11 : w10.cell? ⟨w6.heap.size, 1, none⟩ = some (.int .i64 s1) := (Q1_10.out).cell 1
  have cQ12 : w10.cell? ⟨w6.heap.size, 2, none⟩ = some (.int .i64 e1) := (Q1_10.out).cell 2
  have cQ13 : w10.cell? ⟨w6.heap.size, 3, none⟩ = some (.string n1) := (Q1_10.out).cell 3
  go_wp2_with fail
  refine (Gps.eqGs_any _ _ _ _ l0 _ (rdA X_10.out XP.out) (rdA E_10.out EP.out) M0.out F0.out).mono ?_
  rintro e w11 ⟨rfl, hb⟩
  have B11 : Hid (Below w.heap.size w w11) := grow_on B10.out hb
  have Z11 : Hid (w10.heap.size ≤ w11.heap.size) := hb.size
  have P1_11 : Hid (Blk w11 w.heap.size #[.slice a1 l1.length cap1, .int .i64 s1, .int .i64 e1, .string n1] 43) := P1_10.out.grow hb
  have W_11 : Hid (GsB w3.heap.size w11 WM Wc Wr) := W_10.out.grow hb
  have X_11 : Hid (GsB w4.heap.size w11 w4.heap.size l0.length Xr) := X_10.out.grow hb
  have Y_11 : Hid (Blk w11 YM Ycs 73) := Y_10.out.grow hb
  have Q1_11 : Hid (Blk w11 w6.heap.size #[.slice (some ⟨YM, 0, none⟩) l1.length l1.length, .int .i64 s1, .int .i64 e1, .string n1] 48) := Q1_10.out.grow hb
  have T_11 : Hid (Blk w11 (w6.heap.size + 1) Tcs 9) := T_10.out.grow hb
  have G_11 : Hid (GsB w7.heap.size w11 GM Gc Gr) := G_10.out.grow hb
  have E_11 : Hid (GsB w9.heap.size w11 w9.heap.size l0.length Er) := E_10.out.grow hb
  clear hb cP10 cP11 cP12 cP13 cQ10 cQ11 cQ12 cQ13
  have eA : Alm.sameB l1 s1 e1 n1 l1 s1 e1 n1 = true := Alm.same_self _ _ _ _
  have cP10 : w11.cell? ⟨w.heap.size, 0, none⟩ = some (.slice a1 l1.length cap1) := (P1_11.out).cell 0
  have cP11 : w11.cell? ⟨w.heap.size, 1, none⟩ = some (.int .i64 s1) := (P1_11.out).cell 1
  have cP12 : w11.cell? ⟨w.heap.size, 2, none⟩ = some (.int .i64 e1) := (P1_11.out).cell 2
  have cP13 : w11.cell? ⟨w.heap.size, 3, none⟩ = some (.string n1) := (P1_11.out).cell 3
  have cQ10 : w11.cell? ⟨w6.heap.size, 0, none⟩ = some (.slice (some ⟨YM, 0, none⟩) l1.length l1.length) := (Q1_11.out).cell 0
  have cQ11 : w11.cell? ⟨w6.heap.size, 1, none⟩ = some (.int .i64 s1) := (Q1_11.out).cell 1
  have cQ12 : w11.cell? ⟨w6.heap.size, 2, none⟩ = some (.int .i64 e1) := (Q1_11.out).cell 2
  have cQ13 : w11.cell? ⟨w6.heap.size, 3, none⟩ = some (.string n1) := (Q1_11.out).cell 3
  go_wp2
  have kz : Below w11.heap.size w11 w11.drew := (Below.refl _ _).drew
  have kP1 := P1_11.out.lt
  have kQ1 := Q1_11.out.lt
  have HS : Hid (∀ w', Below w11.heap.size w11 w' → Below w11.heap.size w11 w' ∧ w'.cell? ⟨w.heap.size, 0, none⟩ = some (.slice a1 l1.length cap1) ∧ w'.cell? ⟨w.heap.size, 1, none⟩ = some (.int .i64 s1) ∧ w'.cell? ⟨w.heap.size, 2, none⟩ = some (.int .i64 e1) ∧ w'.cell? ⟨w.heap.size, 3, none⟩ = some (.string n1) ∧ w'.cell? ⟨w6.heap.size, 0, none⟩ = some (.slice (some ⟨YM, 0, none⟩) l1.length l1.length) ∧ w'.cell? ⟨w6.heap.size, 1, none⟩ = some (.int .i64 s1) ∧ w'.cell? ⟨w6.heap.size, 2, none⟩ = some (.int .i64 e1) ∧ w'.cell? ⟨w6.heap.size, 3, none⟩ = some (.string n1)) := fun w' h => ⟨h, (h.cell kP1).trans cP10, (h.cell kP1).trans cP11, (h.cell kP1).trans cP12, (h.cell kP1).trans cP13, (h.cell kQ1).trans cQ10, (h.cell kQ1).trans cQ11, (h.cell kQ1).trans cQ12, (h.cell kQ1).trans cQ13⟩
  go_region_held3 (fun w' => Below w11.heap.size w11 w' ∧ w'.cell? ⟨w.heap.size, 0, none⟩ = some (.slice a1 l1.length cap1) ∧ w'.cell? ⟨w.heap.size, 1, none⟩ = some (.int .i64 s1) ∧ w'.cell? ⟨w.heap.size, 2, none⟩ = some (.int .i64 e1) ∧ w'.cell? ⟨w.heap.size, 3, none⟩ = some (.string n1) ∧ w'.cell? ⟨w6.heap.size, 0, none⟩ = some (.slice (some ⟨YM, 0, none⟩) l1.length l1.length) ∧ w'.cell? ⟨w6.heap.size, 1, none⟩ = some (.int .i64 s1) ∧ w'.cell? ⟨w6.heap.size, 2, none⟩ = some (.int .i64 e1) ∧ w'.cell? ⟨w6.heap.size, 3, none⟩ = some (.string n1)) (first | with_reducible exact HS.out _ kz | with_reducible exact HS.out _ (grow_on kz hy0) | with_reducible exact HS.out _ (grow_on (grow_on kz hy0) hy1) | (go_keep; done)) (first | (go_at_call 25; with_reducible refine (Alm.to_any a1 cap1 l1 s1 e1 n1 _ (R1.out.below (grow_on B11.out kz)) K1.out).mono ?_; rintro e wy ⟨⟨EM, Ecs, rfl, -, hk, -, hh⟩, hy0⟩) | (go_at_call 27; refine (Alm.eq_any _ _ _ _ l1 l1 s1 e1 s1 e1 n1 n1 _ ((held_reads Y_11.out Yh.out).below (grow_on kz hy0)) (held_reads hk hh) M1.out M1.out).mono ?_; rintro e w12 ⟨rfl, hy1⟩))
  have hb := (grow_on (grow_on kz hy0) hy1)
  have B12 : Hid (Below w.heap.size w w12) := grow_on B11.out hb
  have Z12 : Hid (w11.heap.size ≤ w12.heap.size) := hb.size
  have P1_12 : Hid (Blk w12 w.heap.size #[.slice a1 l1.length cap1, .int .i64 s1, .int .i64 e1, .string n1] 43) := P1_11.out.grow hb
  have W_12 : Hid (GsB w3.heap.size w12 WM Wc Wr) := W_11.out.grow hb
  have X_12 : Hid (GsB w4.heap.size w12 w4.heap.size l0.length Xr) := X_11.out.grow hb
  have Y_12 : Hid (Blk w12 YM Ycs 73) := Y_11.out.grow hb
  have Q1_12 : Hid (Blk w12 w6.heap.size #[.slice (some ⟨YM, 0, none⟩) l1.length l1.length, .int .i64 s1, .int .i64 e1, .string n1] 48) := Q1_11.out.grow hb
  have T_12 : Hid (Blk w12 (w6.heap.size + 1) Tcs 9) := T_11.out.grow hb
  have G_12 : Hid (GsB w7.heap.size w12 GM Gc Gr) := G_11.out.grow hb
  clear hb kz HS hy0 hy1 kP1 kQ1 cP10 cP11 cP12 cP13 cQ10 cQ11 cQ12 cQ13 hk hh
  have cP10 : w12.cell? ⟨w.heap.size, 0, none⟩ = some (.slice a1 l1.length cap1) := (P1_12.out).cell 0
  have cP11 : w12.cell? ⟨w.heap.size, 1, none⟩ = some (.int .i64 s1) := (P1_12.out).cell 1
  have cP12 : w12.cell? ⟨w.heap.size, 2, none⟩ = some (.int .i64 e1) := (P1_12.out).cell 2
  have cP13 : w12.cell? ⟨w.heap.size, 3, none⟩ = some (.string n1) := (P1_12.out).cell 3
  have cQ10 : w12.cell? ⟨w6.heap.size, 0, none⟩ = some (.slice (some ⟨YM, 0, none⟩) l1.length l1.length) := (Q1_12.out).cell 0
  have cQ11 : w12.cell? ⟨w6.heap.size, 1, none⟩ = some (.int .i64 s1) := (Q1_12.out).cell 1
  have cQ12 : w12.cell? ⟨w6.heap.size, 2, none⟩ = some (.int .i64 e1) := (Q1_12.out).cell 2
  have cQ13 : w12.cell? ⟨w6.heap.size, 3, none⟩ = some (.string n1) := (Q1_12.out).cell 3
  go_wp2_with fail
  refine (StrT.to_any a2 cap2 l2 _ (R2.out.below B12.out) K2.out).mono ?_
  rintro e w13 ⟨rfl, ⟨Vcs, hk, hs, hh⟩, hb⟩
  have S_13 : Hid (Blk w13 w12.heap.size Vcs 9) := hk
  have Sh : Hid (HeldS Vcs l2) := hh
  clear hk hs hh
  have B13 : Hid (Below w.heap.size w w13) := grow_on B12.out hb
  have Z13 : Hid (w12.heap.size ≤ w13.heap.size) := hb.size
  have P1_13 : Hid (Blk w13 w.heap.size #[.slice a1 l1.length cap1, .int .i64 s1, .int .i64 e1, .string n1] 43) := P1_12.out.grow hb
  have W_13 : Hid (GsB w3.heap.size w13 WM Wc Wr) := W_12.out.grow hb
  have X_13 : Hid (GsB w4.heap.size w13 w4.heap.size l0.length Xr) := X_12.out.grow hb
  have Y_13 : Hid (Blk w13 YM Ycs 73) := Y_12.out.grow hb
  have Q1_13 : Hid (Blk w13 w6.heap.size #[.slice (some ⟨YM, 0, none⟩) l1.length l1.length, .int .i64 s1, .int .i64 e1, .string n1] 48) := Q1_12.out.grow hb
  have T_13 : Hid (Blk w13 (w6.heap.size + 1) Tcs 9) := T_12.out.grow hb
  have G_13 : Hid (GsB w7.heap.size w13 GM Gc Gr) := G_12.out.grow hb
  clear hb cP10 cP11 cP12 cP13 cQ10 cQ11 cQ12 cQ13
  have cP10 : w13.cell? ⟨w.heap.size, 0, none⟩ = some (.slice a1 l1.length cap1) := (P1_13.out).cell 0
  have cP11 : w13.cell? ⟨w.heap.size, 1, none⟩ = some (.int .i64 s1) := (P1_13.out).cell 1
  have cP12 : w13.cell? ⟨w.heap.size, 2, none⟩ = some (.int .i64 e1) := (P1_13.out).cell 2
  have cP13 : w13.cell? ⟨w.heap.size, 3, none⟩ = some (.string n1) := (P1_13.out).cell 3
  have cQ10 : w13.cell? ⟨w6.heap.size, 0, none⟩ = some (.slice (some ⟨YM, 0, none⟩) l1.length l1.length) := (Q1_13.out).cell 0
  have cQ11 : w13.cell? ⟨w6.heap.size, 1, none⟩ = some (.int .i64 s1) := (Q1_13.out).cell 1
  have cQ12 : w13.cell? ⟨w6.heap.size, 2, none⟩ = some (.int .i64 e1) := (Q1_13.out).cell 2
  have cQ13 : w13.cell? ⟨w6.heap.size, 3, none⟩ = some (.string n1) := (Q1_13.out).cell 3
  go_wp2_with fail
  refine (StrT.eq_any _ _ _ _ l2 _ (heldS_reads T_13.out Th.out) (heldS_reads S_13.out Sh.out) M2.out).mono ?_
  rintro e w14 ⟨rfl, hb⟩
  have B14 : Hid (Below w.heap.size w w14) := grow_on B13.out hb
  have Z14 : Hid (w13.heap.size ≤ w14.heap.size) := hb.size
  have P1_14 : Hid (Blk w14 w.heap.size #[.slice a1 l1.length cap1, .int .i64 s1, .int .i64 e1, .string n1] 43) := P1_13.out.grow hb
  have W_14 : Hid (GsB w3.heap.size w14 WM Wc Wr) := W_13.out.grow hb
  have X_14 : Hid (GsB w4.heap.size w14 w4.heap.size l0.length Xr) := X_13.out.grow hb
  have Y_14 : Hid (Blk w14 YM Ycs 73) := Y_13.out.grow hb
  have Q1_14 : Hid (Blk w14 w6.heap.size #[.slice (some ⟨YM, 0, none⟩) l1.length l1.length, .int .i64 s1, .int .i64 e1, .string n1] 48) := Q1_13.out.grow hb
  have T_14 : Hid (Blk w14 (w6.heap.size + 1) Tcs 9) := T_13.out.grow hb
  have G_14 : Hid (GsB w7.heap.size w14 GM Gc Gr) := G_13.out.grow hb
  have S_14 : Hid (Blk w14 w12.heap.size Vcs 9) := S_13.out.grow hb
  clear hb cP10 cP11 cP12 cP13 cQ10 cQ11 cQ12 cQ13
  have XL : Hid (Xr.length = l0.length) := len_g XP.out
  have XS : Hid (1 + sumR Xr ≤ 5000000) := by have h1 := sumR_grs Xr; rw [XP.out, XL.out] at h1; have h2 := K01.out; show _ ≤ _; omega
  have hXM : Hid (Calls Try.prog 28 #[.slice (some ⟨w4.heap.size, 0, none⟩) l0.length l0.length, .int .i64 1] w14 fun e w' => e = .returned (.int .i64 ((1 + sumR Xr : Nat) : Int)) ∧ Only (blksG w4.heap.size Xr) w14 w') := by
    have h := (markGs_any w4.heap.size l0.length 1 _ l0.length Xr w14 X_14.out (by rw [XL.out]; have := K0.out.1; omega) (fun x hx => by have h := rowsG (n := 1048576) X_14.out (by rw [XP.out]; exact each_of K0.out.2.1) (by omega) x hx; exact ⟨h.1, h.2.1⟩) (by omega) (by have := XS.out; omega)).mono (fun e w' h => (⟨h.1, h.2.2⟩ : e = .returned (.int .i64 ((1 + sumR Xr : Nat) : Int)) ∧ Only (blksG w4.heap.size Xr) w14 w'))
    rw [XL.out] at h
    exact h
  have cP10 : w14.cell? ⟨w.heap.size, 0, none⟩ = some (.slice a1 l1.length cap1) := (P1_14.out).cell 0
  have cP11 : w14.cell? ⟨w.heap.size, 1, none⟩ = some (.int .i64 s1) := (P1_14.out).cell 1
  have cP12 : w14.cell? ⟨w.heap.size, 2, none⟩ = some (.int .i64 e1) := (P1_14.out).cell 2
  have cP13 : w14.cell? ⟨w.heap.size, 3, none⟩ = some (.string n1) := (P1_14.out).cell 3
  have cQ10 : w14.cell? ⟨w6.heap.size, 0, none⟩ = some (.slice (some ⟨YM, 0, none⟩) l1.length l1.length) := (Q1_14.out).cell 0
  have cQ11 : w14.cell? ⟨w6.heap.size, 1, none⟩ = some (.int .i64 s1) := (Q1_14.out).cell 1
  have cQ12 : w14.cell? ⟨w6.heap.size, 2, none⟩ = some (.int .i64 e1) := (Q1_14.out).cell 2
  have cQ13 : w14.cell? ⟨w6.heap.size, 3, none⟩ = some (.string n1) := (Q1_14.out).cell 3
  go_wp2_with fail
  refine (hXM.out).mono ?_
  rintro e w15 ⟨rfl, ho⟩
  have B15 : Hid (Below w.heap.size w w15) := B14.out.trans (ho.low (fun k hk => by have hx := XR.out k hk; have hw := B4.out.size; omega) B14.out.size)
  have Z15 : Hid (w14.heap.size ≤ w15.heap.size) := ho.size
  have P1_15 : Hid (Blk w15 w.heap.size #[.slice a1 l1.length cap1, .int .i64 s1, .int .i64 e1, .string n1] 43) := ho.blk P1_14.out (fun hs => by have hx := XR.out _ hs; have h0 := Z1.out; have h1 := Z2.out; have h2 := Z3.out; have h3 := Z4.out; have h4 := Z5.out; have h5 := Z6.out; have h6 := Z7.out; have h7 := Z8.out; have h8 := Z9.out; have h9 := Z10.out; have h10 := Z11.out; have h11 := Z12.out; have h12 := Z13.out; have h13 := Z14.out; have h14 := Z15.out; have h15 := U_P1.out; have h16 := U_Y.out; have h17 := U_Q1.out; have h18 := U_T.out; omega)
  have W_15 : Hid (GsB w3.heap.size w15 WM Wc Wr) := gs_only W_14.out ho (fun k hk hs => by have hx := XR.out k hs; have hy := WR.out k hk; have h0 := Z1.out; have h1 := Z2.out; have h2 := Z3.out; have h3 := Z4.out; have h4 := Z5.out; have h5 := Z6.out; have h6 := Z7.out; have h7 := Z8.out; have h8 := Z9.out; have h9 := Z10.out; have h10 := Z11.out; have h11 := Z12.out; have h12 := Z13.out; have h13 := Z14.out; have h14 := Z15.out; have h15 := U_P1.out; have h16 := U_Y.out; have h17 := U_Q1.out; have h18 := U_T.out; omega)
  have Y_15 : Hid (Blk w15 YM Ycs 73) := ho.blk Y_14.out (fun hs => by have hx := XR.out _ hs; have h0 := Z1.out; have h1 := Z2.out; have h2 := Z3.out; have h3 := Z4.out; have h4 := Z5.out; have h5 := Z6.out; have h6 := Z7.out; have h7 := Z8.out; have h8 := Z9.out; have h9 := Z10.out; have h10 := Z11.out; have h11 := Z12.out; have h12 := Z13.out; have h13 := Z14.out; have h14 := Z15.out; have h15 := U_P1.out; have h16 := U_Y.out; have h17 := U_Q1.out; have h18 := U_T.out; omega)
  have Q1_15 : Hid (Blk w15 w6.heap.size #[.slice (some ⟨YM, 0, none⟩) l1.length l1.length, .int .i64 s1, .int .i64 e1, .string n1] 48) := ho.blk Q1_14.out (fun hs => by have hx := XR.out _ hs; have h0 := Z1.out; have h1 := Z2.out; have h2 := Z3.out; have h3 := Z4.out; have h4 := Z5.out; have h5 := Z6.out; have h6 := Z7.out; have h7 := Z8.out; have h8 := Z9.out; have h9 := Z10.out; have h10 := Z11.out; have h11 := Z12.out; have h12 := Z13.out; have h13 := Z14.out; have h14 := Z15.out; have h15 := U_P1.out; have h16 := U_Y.out; have h17 := U_Q1.out; have h18 := U_T.out; omega)
  have T_15 : Hid (Blk w15 (w6.heap.size + 1) Tcs 9) := ho.blk T_14.out (fun hs => by have hx := XR.out _ hs; have h0 := Z1.out; have h1 := Z2.out; have h2 := Z3.out; have h3 := Z4.out; have h4 := Z5.out; have h5 := Z6.out; have h6 := Z7.out; have h7 := Z8.out; have h8 := Z9.out; have h9 := Z10.out; have h10 := Z11.out; have h11 := Z12.out; have h12 := Z13.out; have h13 := Z14.out; have h14 := Z15.out; have h15 := U_P1.out; have h16 := U_Y.out; have h17 := U_Q1.out; have h18 := U_T.out; omega)
  have G_15 : Hid (GsB w7.heap.size w15 GM Gc Gr) := gs_only G_14.out ho (fun k hk hs => by have hx := XR.out k hs; have hy := GR.out k hk; have h0 := Z1.out; have h1 := Z2.out; have h2 := Z3.out; have h3 := Z4.out; have h4 := Z5.out; have h5 := Z6.out; have h6 := Z7.out; have h7 := Z8.out; have h8 := Z9.out; have h9 := Z10.out; have h10 := Z11.out; have h11 := Z12.out; have h12 := Z13.out; have h13 := Z14.out; have h14 := Z15.out; have h15 := U_P1.out; have h16 := U_Y.out; have h17 := U_Q1.out; have h18 := U_T.out; omega)
  clear ho cP10 cP11 cP12 cP13 cQ10 cQ11 cQ12 cQ13
  have MX : Hid (1 ≤ 1 + sumR Xr ∧ 1 + sumR Xr ≤ 5000000) := by have := XS.out; exact ⟨by omega, by omega⟩
  generalize 1 + sumR Xr = m1 at MX ⊢
  have cP10 : w15.cell? ⟨w.heap.size, 0, none⟩ = some (.slice a1 l1.length cap1) := (P1_15.out).cell 0
  have cP11 : w15.cell? ⟨w.heap.size, 1, none⟩ = some (.int .i64 s1) := (P1_15.out).cell 1
  have cP12 : w15.cell? ⟨w.heap.size, 2, none⟩ = some (.int .i64 e1) := (P1_15.out).cell 2
  have cP13 : w15.cell? ⟨w.heap.size, 3, none⟩ = some (.string n1) := (P1_15.out).cell 3
  have cQ10 : w15.cell? ⟨w6.heap.size, 0, none⟩ = some (.slice (some ⟨YM, 0, none⟩) l1.length l1.length) := (Q1_15.out).cell 0
  have cQ11 : w15.cell? ⟨w6.heap.size, 1, none⟩ = some (.int .i64 s1) := (Q1_15.out).cell 1
  have cQ12 : w15.cell? ⟨w6.heap.size, 2, none⟩ = some (.int .i64 e1) := (Q1_15.out).cell 2
  have cQ13 : w15.cell? ⟨w6.heap.size, 3, none⟩ = some (.string n1) := (Q1_15.out).cell 3
  go_wp2_with fail
  refine (AlmK.markA_any YM l1.length l1.length m1 s1 e1 n1 Ycs _ Y_15.out (by rw [Ys.out]; exact Nat.le_refl _) K1.out MX.out.1 (by have := MX.out.2; omega)).mono ?_
  rintro e w16 ⟨rfl, -, ha⟩
  have B16 : Hid (Below w.heap.size w w16) := B15.out.trans (ha.low (by have h0 := B5.out.size; have h0 := Z1.out; have h1 := Z2.out; have h2 := Z3.out; have h3 := Z4.out; have h4 := Z5.out; have h5 := Z6.out; have h6 := Z7.out; have h7 := Z8.out; have h8 := Z9.out; have h9 := Z10.out; have h10 := Z11.out; have h11 := Z12.out; have h12 := Z13.out; have h13 := Z14.out; have h14 := Z15.out; have h15 := U_P1.out; have h16 := U_Y.out; have h17 := U_Q1.out; have h18 := U_T.out; omega) B15.out.size)
  have Z16 : Hid (w15.heap.size ≤ w16.heap.size) := ha.size
  have P1_16 : Hid (Blk w16 w.heap.size #[.slice a1 l1.length cap1, .int .i64 s1, .int .i64 e1, .string n1] 43) := ha.blk P1_15.out (by have h0 := Z1.out; have h1 := Z2.out; have h2 := Z3.out; have h3 := Z4.out; have h4 := Z5.out; have h5 := Z6.out; have h6 := Z7.out; have h7 := Z8.out; have h8 := Z9.out; have h9 := Z10.out; have h10 := Z11.out; have h11 := Z12.out; have h12 := Z13.out; have h13 := Z14.out; have h14 := Z15.out; have h15 := Z16.out; have h16 := U_P1.out; have h17 := U_Y.out; have h18 := U_Q1.out; have h19 := U_T.out; omega)
  have W_16 : Hid (GsB w3.heap.size w16 WM Wc Wr) := gs_only W_15.out (Only.apart (S := fun k => k = YM) ha rfl) (fun k hk hs => by have hy := WR.out k hk; have h0 := Z1.out; have h1 := Z2.out; have h2 := Z3.out; have h3 := Z4.out; have h4 := Z5.out; have h5 := Z6.out; have h6 := Z7.out; have h7 := Z8.out; have h8 := Z9.out; have h9 := Z10.out; have h10 := Z11.out; have h11 := Z12.out; have h12 := Z13.out; have h13 := Z14.out; have h14 := Z15.out; have h15 := Z16.out; have h16 := U_P1.out; have h17 := U_Y.out; have h18 := U_Q1.out; have h19 := U_T.out; omega)
  have T_16 : Hid (Blk w16 (w6.heap.size + 1) Tcs 9) := ha.blk T_15.out (by have h0 := Z1.out; have h1 := Z2.out; have h2 := Z3.out; have h3 := Z4.out; have h4 := Z5.out; have h5 := Z6.out; have h6 := Z7.out; have h7 := Z8.out; have h8 := Z9.out; have h9 := Z10.out; have h10 := Z11.out; have h11 := Z12.out; have h12 := Z13.out; have h13 := Z14.out; have h14 := Z15.out; have h15 := Z16.out; have h16 := U_P1.out; have h17 := U_Y.out; have h18 := U_Q1.out; have h19 := U_T.out; omega)
  have G_16 : Hid (GsB w7.heap.size w16 GM Gc Gr) := gs_only G_15.out (Only.apart (S := fun k => k = YM) ha rfl) (fun k hk hs => by have hy := GR.out k hk; have h0 := Z1.out; have h1 := Z2.out; have h2 := Z3.out; have h3 := Z4.out; have h4 := Z5.out; have h5 := Z6.out; have h6 := Z7.out; have h7 := Z8.out; have h8 := Z9.out; have h9 := Z10.out; have h10 := Z11.out; have h11 := Z12.out; have h12 := Z13.out; have h13 := Z14.out; have h14 := Z15.out; have h15 := Z16.out; have h16 := U_P1.out; have h17 := U_Y.out; have h18 := U_Q1.out; have h19 := U_T.out; omega)
  clear ha cP10 cP11 cP12 cP13 cQ10 cQ11 cQ12 cQ13
  have MX2 : Hid (1 ≤ m1 + 2 * l1.length ∧ m1 + 2 * l1.length ≤ 10000000) := by have h1 := MX.out; have h2 := K1.out; exact ⟨by omega, by omega⟩
  generalize m1 + 2 * l1.length = m2 at MX2 ⊢
  have cP10 : w16.cell? ⟨w.heap.size, 0, none⟩ = some (.slice a1 l1.length cap1) := (P1_16.out).cell 0
  have cP11 : w16.cell? ⟨w.heap.size, 1, none⟩ = some (.int .i64 s1) := (P1_16.out).cell 1
  have cP12 : w16.cell? ⟨w.heap.size, 2, none⟩ = some (.int .i64 e1) := (P1_16.out).cell 2
  have cP13 : w16.cell? ⟨w.heap.size, 3, none⟩ = some (.string n1) := (P1_16.out).cell 3
  go_wp2_with fail
  refine (StrT.mark_any (w6.heap.size + 1) l2.length l2.length m2 Tcs _ T_16.out Ts.out K2.out MX2.out.1 MX2.out.2).mono ?_
  rintro e w17 ⟨rfl, ha⟩
  have B17 : Hid (Below w.heap.size w w17) := B16.out.trans (ha.low (by have h0 := B5.out.size; have h0 := Z1.out; have h1 := Z2.out; have h2 := Z3.out; have h3 := Z4.out; have h4 := Z5.out; have h5 := Z6.out; have h6 := Z7.out; have h7 := Z8.out; have h8 := Z9.out; have h9 := Z10.out; have h10 := Z11.out; have h11 := Z12.out; have h12 := Z13.out; have h13 := Z14.out; have h14 := Z15.out; have h15 := Z16.out; have h16 := U_P1.out; have h17 := U_Y.out; have h18 := U_Q1.out; have h19 := U_T.out; omega) B16.out.size)
  have Z17 : Hid (w16.heap.size ≤ w17.heap.size) := ha.size
  have P1_17 : Hid (Blk w17 w.heap.size #[.slice a1 l1.length cap1, .int .i64 s1, .int .i64 e1, .string n1] 43) := ha.blk P1_16.out (by have h0 := Z1.out; have h1 := Z2.out; have h2 := Z3.out; have h3 := Z4.out; have h4 := Z5.out; have h5 := Z6.out; have h6 := Z7.out; have h7 := Z8.out; have h8 := Z9.out; have h9 := Z10.out; have h10 := Z11.out; have h11 := Z12.out; have h12 := Z13.out; have h13 := Z14.out; have h14 := Z15.out; have h15 := Z16.out; have h16 := Z17.out; have h17 := U_P1.out; have h18 := U_Y.out; have h19 := U_Q1.out; have h20 := U_T.out; omega)
  have W_17 : Hid (GsB w3.heap.size w17 WM Wc Wr) := gs_only W_16.out (Only.apart (S := fun k => k = (w6.heap.size + 1)) ha rfl) (fun k hk hs => by have hy := WR.out k hk; have h0 := Z1.out; have h1 := Z2.out; have h2 := Z3.out; have h3 := Z4.out; have h4 := Z5.out; have h5 := Z6.out; have h6 := Z7.out; have h7 := Z8.out; have h8 := Z9.out; have h9 := Z10.out; have h10 := Z11.out; have h11 := Z12.out; have h12 := Z13.out; have h13 := Z14.out; have h14 := Z15.out; have h15 := Z16.out; have h16 := Z17.out; have h17 := U_P1.out; have h18 := U_Y.out; have h19 := U_Q1.out; have h20 := U_T.out; omega)
  have G_17 : Hid (GsB w7.heap.size w17 GM Gc Gr) := gs_only G_16.out (Only.apart (S := fun k => k = (w6.heap.size + 1)) ha rfl) (fun k hk hs => by have hy := GR.out k hk; have h0 := Z1.out; have h1 := Z2.out; have h2 := Z3.out; have h3 := Z4.out; have h4 := Z5.out; have h5 := Z6.out; have h6 := Z7.out; have h7 := Z8.out; have h8 := Z9.out; have h9 := Z10.out; have h10 := Z11.out; have h11 := Z12.out; have h12 := Z13.out; have h13 := Z14.out; have h14 := Z15.out; have h15 := Z16.out; have h16 := Z17.out; have h17 := U_P1.out; have h18 := U_Y.out; have h19 := U_Q1.out; have h20 := U_T.out; omega)
  clear ha cP10 cP11 cP12 cP13
  have hq : ¬ ((m2 + l2.length : Nat) : Int) < 0 := by omega
  generalize m2 + l2.length = m3 at hq ⊢
  have cP10 : w17.cell? ⟨w.heap.size, 0, none⟩ = some (.slice a1 l1.length cap1) := (P1_17.out).cell 0
  have cP11 : w17.cell? ⟨w.heap.size, 1, none⟩ = some (.int .i64 s1) := (P1_17.out).cell 1
  have cP12 : w17.cell? ⟨w.heap.size, 2, none⟩ = some (.int .i64 e1) := (P1_17.out).cell 2
  have cP13 : w17.cell? ⟨w.heap.size, 3, none⟩ = some (.string n1) := (P1_17.out).cell 3
  go_wp2_with fail
  refine (eqL_any _ _ _ _ _ _ _ _ Gr Wr _ _ G_17.out W_17.out GP.out WP.out PL.out.1 PL.out.2.1).mono ?_
  rintro e w18 ⟨rfl, hb⟩
  have B18 : Hid (Below w.heap.size w w18) := grow_on B17.out hb
  have Z18 : Hid (w17.heap.size ≤ w18.heap.size) := hb.size
  have P1_18 : Hid (Blk w18 w.heap.size #[.slice a1 l1.length cap1, .int .i64 s1, .int .i64 e1, .string n1] 43) := P1_17.out.grow hb
  have W_18 : Hid (GsB w3.heap.size w18 WM Wc Wr) := W_17.out.grow hb
  have G_18 : Hid (GsB w7.heap.size w18 GM Gc Gr) := G_17.out.grow hb
  clear hb cP10 cP11 cP12 cP13
  clear hq
  have GS : Hid (1 + sumR Gr ≤ 9000000 ∧ Gr.length ≤ 2000000) := by have h1 := sumR_grs Gr; have h2 := len_g GP.out; rw [GP.out, h2] at h1; have h3 := PS.out; have h4 := K01.out; have h5 := PL.out.2.2; exact ⟨by omega, by omega⟩
  have cP10 : w18.cell? ⟨w.heap.size, 0, none⟩ = some (.slice a1 l1.length cap1) := (P1_18.out).cell 0
  have cP11 : w18.cell? ⟨w.heap.size, 1, none⟩ = some (.int .i64 s1) := (P1_18.out).cell 1
  have cP12 : w18.cell? ⟨w.heap.size, 2, none⟩ = some (.int .i64 e1) := (P1_18.out).cell 2
  have cP13 : w18.cell? ⟨w.heap.size, 3, none⟩ = some (.string n1) := (P1_18.out).cell 3
  go_wp2_with fail
  refine (markGs_any GM Gc 1 _ Gc Gr w18 G_18.out GS.out.2 (fun x hx => ⟨(GL.out x hx).1, (GL.out x hx).2.1⟩) (by omega) GS.out.1).mono ?_
  rintro e w19 ⟨rfl, hm, ho⟩
  have B19 : Hid (Below w.heap.size w w19) := B18.out.trans (ho.low (fun k hk => by have hx := GR.out k hk; have hw := B5.out.size; have h0 := Z1.out; have h1 := Z2.out; have h2 := Z3.out; have h3 := Z4.out; have h4 := Z5.out; have h5 := Z6.out; have h6 := Z7.out; have h7 := Z8.out; have h8 := Z9.out; have h9 := Z10.out; have h10 := Z11.out; have h11 := Z12.out; have h12 := Z13.out; have h13 := Z14.out; have h14 := Z15.out; have h15 := Z16.out; have h16 := Z17.out; have h17 := Z18.out; have h18 := U_P1.out; have h19 := U_Y.out; have h20 := U_Q1.out; have h21 := U_T.out; omega) B18.out.size)
  have Z19 : Hid (w18.heap.size ≤ w19.heap.size) := ho.size
  have P1_19 : Hid (Blk w19 w.heap.size #[.slice a1 l1.length cap1, .int .i64 s1, .int .i64 e1, .string n1] 43) := ho.blk P1_18.out (fun hs => by have hx := GR.out _ hs; have h0 := Z1.out; have h1 := Z2.out; have h2 := Z3.out; have h3 := Z4.out; have h4 := Z5.out; have h5 := Z6.out; have h6 := Z7.out; have h7 := Z8.out; have h8 := Z9.out; have h9 := Z10.out; have h10 := Z11.out; have h11 := Z12.out; have h12 := Z13.out; have h13 := Z14.out; have h14 := Z15.out; have h15 := Z16.out; have h16 := Z17.out; have h17 := Z18.out; have h18 := Z19.out; have h19 := U_P1.out; have h20 := U_Y.out; have h21 := U_Q1.out; have h22 := U_T.out; omega)
  have W_19 : Hid (GsB w3.heap.size w19 WM Wc Wr) := gs_only W_18.out ho (fun k hk hs => by have hx := GR.out k hs; have hy := WR.out k hk; have h0 := Z1.out; have h1 := Z2.out; have h2 := Z3.out; have h3 := Z4.out; have h4 := Z5.out; have h5 := Z6.out; have h6 := Z7.out; have h7 := Z8.out; have h8 := Z9.out; have h9 := Z10.out; have h10 := Z11.out; have h11 := Z12.out; have h12 := Z13.out; have h13 := Z14.out; have h14 := Z15.out; have h15 := Z16.out; have h16 := Z17.out; have h17 := Z18.out; have h18 := Z19.out; have h19 := U_P1.out; have h20 := U_Y.out; have h21 := U_Q1.out; have h22 := U_T.out; omega)
  have H_19 : Hid (MR w19 GM Gr 1 Gr.length) := hm
  clear hm
  clear ho cP10 cP11 cP12 cP13
  have hq : ¬ ((1 + sumR Gr : Nat) : Int) < 0 := by omega
  have cP10 : w19.cell? ⟨w.heap.size, 0, none⟩ = some (.slice a1 l1.length cap1) := (P1_19.out).cell 0
  have cP11 : w19.cell? ⟨w.heap.size, 1, none⟩ = some (.int .i64 s1) := (P1_19.out).cell 1
  have cP12 : w19.cell? ⟨w.heap.size, 2, none⟩ = some (.int .i64 e1) := (P1_19.out).cell 2
  have cP13 : w19.cell? ⟨w.heap.size, 3, none⟩ = some (.string n1) := (P1_19.out).cell 3
  go_wp2_with fail
  refine (heldGs_any GM 1 Gc Gr _ H_19.out GL.out GS.out.2 (by omega) GS.out.1).mono ?_
  rintro e w20 ⟨rfl, hb⟩
  have B20 : Hid (Below w.heap.size w w20) := grow_on B19.out hb
  have Z20 : Hid (w19.heap.size ≤ w20.heap.size) := hb.size
  have P1_20 : Hid (Blk w20 w.heap.size #[.slice a1 l1.length cap1, .int .i64 s1, .int .i64 e1, .string n1] 43) := P1_19.out.grow hb
  have W_20 : Hid (GsB w3.heap.size w20 WM Wc Wr) := W_19.out.grow hb
  have H_20 : Hid (MR w20 GM Gr 1 Gr.length) := H_19.out.grow hb
  clear hb cP10 cP11 cP12 cP13
  have cap_l : l0.length ≤ l0.length ∧ l0.length ≤ maxLen := ⟨Nat.le_refl _, M0.out⟩
  have cP10 : w20.cell? ⟨w.heap.size, 0, none⟩ = some (.slice a1 l1.length cap1) := (P1_20.out).cell 0
  have cP11 : w20.cell? ⟨w.heap.size, 1, none⟩ = some (.int .i64 s1) := (P1_20.out).cell 1
  have cP12 : w20.cell? ⟨w.heap.size, 2, none⟩ = some (.int .i64 e1) := (P1_20.out).cell 2
  have cP13 : w20.cell? ⟨w.heap.size, 3, none⟩ = some (.string n1) := (P1_20.out).cell 3
  go_wp2
  have kz : Below w20.heap.size w20 w20.drew := (Below.refl _ _).drew
  have kP1 := P1_20.out.lt
  have HS : Hid (∀ w', Below w20.heap.size w20 w' → Below w20.heap.size w20 w' ∧ w'.cell? ⟨w.heap.size, 0, none⟩ = some (.slice a1 l1.length cap1) ∧ w'.cell? ⟨w.heap.size, 1, none⟩ = some (.int .i64 s1) ∧ w'.cell? ⟨w.heap.size, 2, none⟩ = some (.int .i64 e1) ∧ w'.cell? ⟨w.heap.size, 3, none⟩ = some (.string n1)) := fun w' h => ⟨h, (h.cell kP1).trans cP10, (h.cell kP1).trans cP11, (h.cell kP1).trans cP12, (h.cell kP1).trans cP13⟩
  go_region_held3 (fun w' => Below w20.heap.size w20 w' ∧ w'.cell? ⟨w.heap.size, 0, none⟩ = some (.slice a1 l1.length cap1) ∧ w'.cell? ⟨w.heap.size, 1, none⟩ = some (.int .i64 s1) ∧ w'.cell? ⟨w.heap.size, 2, none⟩ = some (.int .i64 e1) ∧ w'.cell? ⟨w.heap.size, 3, none⟩ = some (.string n1)) (first | with_reducible exact HS.out _ kz | with_reducible exact HS.out _ (grow_on kz hy0) | with_reducible exact HS.out _ (grow_on (grow_on kz hy0) hy1) | with_reducible exact HS.out _ (grow_on (grow_on (grow_on kz hy0) hy1) hy2) | with_reducible exact HS.out _ (grow_on (grow_on (grow_on (grow_on kz hy0) hy1) hy2) hy3) | (go_keep; done)) (first | (go_at_call 11; with_reducible refine (Gps.toGs_any a0 cap0 l0 _ (R0.out.below stays_ga (grow_on B20.out kz)) K0.out.1 K0.out.2.1).mono ?_; rintro e wy0 ⟨rfl, ⟨T0r, hA0, hP0, hC0⟩, hy0⟩) | (go_at_call 25; with_reducible refine (Alm.to_any a1 cap1 l1 s1 e1 n1 _ (R1.out.below (grow_on B20.out (grow_on kz hy0))) K1.out).mono ?_; rintro e wy1 ⟨⟨T1M, T1cs, rfl, -, hk1, -, hh1⟩, hy1⟩) | (go_at_call 12; with_reducible refine (StrT.to_any a2 cap2 l2 _ (R2.out.below (grow_on B20.out (grow_on (grow_on kz hy0) hy1))) K2.out).mono ?_; rintro e wy2 ⟨rfl, ⟨T2cs, hk2, hs2, hh2⟩, hy2⟩) | (go_at_call 26; refine (GpIj.implJoinA_any _ _ _ _ l0 l2 _ 0 _ (⟨l1, s1, e1, n1⟩ : PAl) a3 a4 _ ((rdN hA0 hP0 hC0).below stays_gn (grow_on hy1 hy2)) K0.out.1 cap_l N0.out ((held_reads hk1 hh1).below hy2) K1.out (heldS_reads hk2 hh2) M2.out JG.out).mono ?_; rintro e w21 ⟨⟨VM, Vc, Vr, rfl, hA, hP⟩, hy3⟩))
  have hb := (grow_on (grow_on (grow_on (grow_on kz hy0) hy1) hy2) hy3)
  have V_21 : Hid (GsB w20.heap.size w21 VM Vc Vr) := hA.down (grow_on (grow_on (grow_on kz hy0) hy1) hy2).size
  have VP : Hid (grs Vr = joinAllG l0 (⟨l1, s1, e1, n1⟩ : PAl) l2 a3 a4) := hP
  have VR : Hid (∀ k, blksG VM Vr k → w20.heap.size ≤ k ∧ k < w21.heap.size) := rngG V_21.out
  clear hA hP
  have B21 : Hid (Below w.heap.size w w21) := grow_on B20.out hb
  have Z21 : Hid (w20.heap.size ≤ w21.heap.size) := hb.size
  have P1_21 : Hid (Blk w21 w.heap.size #[.slice a1 l1.length cap1, .int .i64 s1, .int .i64 e1, .string n1] 43) := P1_20.out.grow hb
  have W_21 : Hid (GsB w3.heap.size w21 WM Wc Wr) := W_20.out.grow hb
  have H_21 : Hid (MR w21 GM Gr 1 Gr.length) := H_20.out.grow hb
  clear hb kz HS hy0 hy1 hy2 hy3 kP1 cP10 cP11 cP12 cP13 hA0 hP0 hC0 hk1 hh1 hk2 hs2 hh2 cap_l
  have cP10 : w21.cell? ⟨w.heap.size, 0, none⟩ = some (.slice a1 l1.length cap1) := (P1_21.out).cell 0
  have cP11 : w21.cell? ⟨w.heap.size, 1, none⟩ = some (.int .i64 s1) := (P1_21.out).cell 1
  have cP12 : w21.cell? ⟨w.heap.size, 2, none⟩ = some (.int .i64 e1) := (P1_21.out).cell 2
  have cP13 : w21.cell? ⟨w.heap.size, 3, none⟩ = some (.string n1) := (P1_21.out).cell 3
  go_wp2_with fail
  refine (eqL_any _ _ _ _ _ _ _ _ Vr Wr _ _ V_21.out W_21.out VP.out WP.out PL.out.1 PL.out.2.1).mono ?_
  rintro e w22 ⟨rfl, hb⟩
  have B22 : Hid (Below w.heap.size w w22) := grow_on B21.out hb
  have Z22 : Hid (w21.heap.size ≤ w22.heap.size) := hb.size
  have P1_22 : Hid (Blk w22 w.heap.size #[.slice a1 l1.length cap1, .int .i64 s1, .int .i64 e1, .string n1] 43) := P1_21.out.grow hb
  have W_22 : Hid (GsB w3.heap.size w22 WM Wc Wr) := W_21.out.grow hb
  have H_22 : Hid (MR w22 GM Gr 1 Gr.length) := H_21.out.grow hb
  have V_22 : Hid (GsB w20.heap.size w22 VM Vc Vr) := V_21.out.grow hb
  clear hb cP10 cP11 cP12 cP13
  have hq : ¬ ((1 + sumR Gr : Nat) : Int) < 0 := by omega
  have cP10 : w22.cell? ⟨w.heap.size, 0, none⟩ = some (.slice a1 l1.length cap1) := (P1_22.out).cell 0
  have cP11 : w22.cell? ⟨w.heap.size, 1, none⟩ = some (.int .i64 s1) := (P1_22.out).cell 1
  have cP12 : w22.cell? ⟨w.heap.size, 2, none⟩ = some (.int .i64 e1) := (P1_22.out).cell 2
  have cP13 : w22.cell? ⟨w.heap.size, 3, none⟩ = some (.string n1) := (P1_22.out).cell 3
  go_wp2_with fail
  refine (heldGs_any GM 1 Gc Gr _ H_22.out GL.out GS.out.2 (by omega) GS.out.1).mono ?_
  rintro e w23 ⟨rfl, hb⟩
  have B23 : Hid (Below w.heap.size w w23) := grow_on B22.out hb
  have Z23 : Hid (w22.heap.size ≤ w23.heap.size) := hb.size
  have P1_23 : Hid (Blk w23 w.heap.size #[.slice a1 l1.length cap1, .int .i64 s1, .int .i64 e1, .string n1] 43) := P1_22.out.grow hb
  have W_23 : Hid (GsB w3.heap.size w23 WM Wc Wr) := W_22.out.grow hb
  have H_23 : Hid (MR w23 GM Gr 1 Gr.length) := H_22.out.grow hb
  have V_23 : Hid (GsB w20.heap.size w23 VM Vc Vr) := V_22.out.grow hb
  clear hb cP10 cP11 cP12 cP13
  have cP10 : w23.cell? ⟨w.heap.size, 0, none⟩ = some (.slice a1 l1.length cap1) := (P1_23.out).cell 0
  have cP11 : w23.cell? ⟨w.heap.size, 1, none⟩ = some (.int .i64 s1) := (P1_23.out).cell 1
  have cP12 : w23.cell? ⟨w.heap.size, 2, none⟩ = some (.int .i64 e1) := (P1_23.out).cell 2
  have cP13 : w23.cell? ⟨w.heap.size, 3, none⟩ = some (.string n1) := (P1_23.out).cell 3
  go_wp2
  go_ret
  exact ⟨rfl, B23.out⟩
theorem own : ownKnob Try.prog.godebug = none := by kernel_rfl
theorem laidOut : laidOutB Try.prog = true := by kernel_rfl
set_option maxRecDepth 100000 in
theorem lifted (os : Os) (started : os.Started) (H : Type) (enc : TypeId × Value → H) :
    ReturnsInHanded {} Try.checked os 6 .any (Rows.fnExactJoinAllSpec.pre6 enc Try.prog Try.f6 Rows.fnExactJoinAllRow.domain false) (Rows.fnExactJoinAllSpec.post enc Try.prog Try.f6 false true false false) := by
  refine returnsInHanded_of_change (C := Try.checked) own started (by kernel_rfl) Try.func6
    (ChangeSpec.witness6 (enc := enc) (C := Try.checked) false ⟨#[], #[.slice none 0 0, .agg #[.slice none 0 0, .int .i64 0, .int .i64 0, .string ⟨#[]⟩], .slice none 0 0, .int .i64 0, .int .i64 0], []⟩ 8 (by kernel_rfl) (by kernel_rfl) (by kernel_rfl) (by kernel_rfl)) ?_
  intro W base args ds gs before hval0 hW hcnd _
  have hval : ∀ (j : Nat) t v, Try.f6.params[j]? = some t → args[j]? = some v → Value.okWide Try.prog W .any base t v := hval0
  have hW' := hW
  obtain ⟨p, q, hA0, hV, rfl, hfz, hnd⟩ := hW
  have hA : DataW.TrodAll enc Try.prog W 0 (fun _ => true) true Try.f6.params.toList args.toList ds p := hA0
  rw [Try.params6] at hA hval
  obtain ⟨v0, vs0, d0, ds0, p0, q0, hargs, rfl, rfl, h0, r0⟩ := trodAll_cons hA
  obtain ⟨v1, vs1, d1, ds1, p1, q1, rfl, rfl, rfl, h1, r1⟩ := trodAll_cons r0
  obtain ⟨v2, vs2, d2, ds2, p2, q2, rfl, rfl, rfl, h2, r2⟩ := trodAll_cons r1
  obtain ⟨v3, vs3, d3, ds3, p3, q3, rfl, rfl, rfl, h3, r3⟩ := trodAll_cons r2
  obtain ⟨v4, vs4, d4, ds4, p4, q4, rfl, rfl, rfl, h4, r4⟩ := trodAll_cons r3
  obtain ⟨rfl, rfl, rfl⟩ := trodAll_nil r4
  obtain rfl : args = #[v0, v1, v2, v3, v4] := by cases args; simp_all
  obtain ⟨rfl, rfl⟩ := trodVars_none hV
  obtain ⟨a0, len0, cap0, rfl⟩ := okWide_slice Try.underlying22 (hval 0 22 v0 rfl rfl)
  have k0 := h0
  have lt0 : ∀ x ∈ p0, x.block < W.heap.size := by obtain ⟨m, hm⟩ := k0; exact DataW.trod_lt m _ _ _ hm
  obtain ⟨l0, rfl, w0, m0, f0⟩ := Go.Proofs.Ytgncimlojbnbfaa.Gps.open_groups h0
  have k1 := h1
  have lt1 : ∀ x ∈ p1, x.block < W.heap.size := by obtain ⟨m, hm⟩ := k1; exact DataW.trod_lt m _ _ _ hm
  obtain ⟨a1, cap1, l1, s1, e1, n1, rfl, w1⟩ := Go.Proofs.Ytgncimlojbnbfaa.Alm.open_alarm (hval 1 43 v1 rfl rfl) h1
  obtain ⟨a2, len2, cap2, rfl⟩ := okWide_slice Try.underlying23 (hval 2 23 v2 rfl rfl)
  have k2 := h2
  have lt2 : ∀ x ∈ p2, x.block < W.heap.size := by obtain ⟨m, hm⟩ := k2; exact DataW.trod_lt m _ _ _ hm
  obtain ⟨l2, rfl, w2, m2, f2⟩ := Go.Proofs.Ytgncimlojbnbfaa.StrT.open_strs h2
  obtain ⟨a3, rfl, rfl, rfl, w3⟩ := open_int Try.underlying3 (hval 3 3 v3 rfl rfl) h3
  obtain ⟨a4, rfl, rfl, rfl, w4⟩ := open_int Try.underlying3 (hval 4 3 v4 rfl rfl) h4
  clear hA0 hval0
  refine (walk a0 cap0 l0 a1 cap1 l1 s1 e1 n1 a2 cap2 l2 a3 a4 W w0 m0 f0 w1 w2 m2 f2 w3 w4).mono fun e W' ⟨he, bel⟩ => ?_
  subst he
  exact ⟨_, rfl, _, _, _, [], _, [], hW', trodAll_mk1 (shut_bool Try.underlying4 _), (trodAll_cons_mk (Below.trod laidOut (by kernel_rfl) (of_decide_eq_true (by kernel_rfl)) k0 bel lt0) (trodAll_cons_mk (Below.trod laidOut (by kernel_rfl) (of_decide_eq_true (by kernel_rfl)) k1 bel lt1) (trodAll_cons_mk (Below.trod laidOut (by kernel_rfl) (of_decide_eq_true (by kernel_rfl)) k2 bel lt2) (trodAll_cons_mk (shut_int Try.underlying3 w3) (trodAll_cons_mk (shut_int Try.underlying3 w4) trodAll_mk0))))), rfl, bel.frame _, fun h => by cases h⟩

theorem over : Rows.fnExactJoinAllRow.holds Try.pinned (OpenSpec.ofChange Rows.fnExactJoinAllSpec) :=
  OpenClaim.holds_of_wide 6 Try.f6 rfl rfl rfl rfl rfl rfl rfl ⟨rfl, rfl, rfl, rfl, rfl⟩ rfl rfl rfl rfl rfl (by kernel_rfl) Try.func6 (by kernel_rfl)
    (of_decide_eq_true (by kernel_rfl)) (by unfold Func.isWrapper; first | (rw [if_pos (by decide +kernel)]; kernel_rfl) | (rw [if_neg (by decide +kernel)]; exact ⟨rfl, rfl⟩))
    (fun os started H enc _ => lifted os started H enc)

end Go.Proofs.Ytgncimlojbnbfaa.FnExactJoinAll
namespace Go.Proofs.Ytgncimlojbnbfaa
theorem fnExactJoinAll_holds : Rows.FnExactJoinAllSaid := FnExactJoinAll.over
#print axioms fnExactJoinAll_holds
end Go.Proofs.Ytgncimlojbnbfaa
