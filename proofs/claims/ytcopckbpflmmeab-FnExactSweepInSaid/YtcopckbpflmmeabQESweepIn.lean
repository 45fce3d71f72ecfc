/-
  PROVED: at every part and every number impl.SweepIn answers as spec.SweepIn, leaves the part as it was, keeps nothing of it, and its answers lie in memory of their own, so the law laws.FnExactSweepIn returns true, whatever its arguments. No condition.
-/
import Derived.Test.YtcopckbpflmmeabRows
import Derived.WalkKit
import Derived.ProofKit
import Derived.OpenShut
import Derived.ShutString
import Derived.ChangeOld
import Derived.Below
import Derived.WalkLawsBesides
import Derived.WalkSpells
import Derived.Test.YtcopckbpflmmeabQPrtX
import Derived.Test.YtcopckbpflmmeabQPrtY
import Derived.Deep.RegionHeld3
set_option linter.unusedVariables false
namespace Go.Proofs.Ytcopckbpflmmeab.FnExactSweepIn
open Go.ChangeShapes Go.WideShapes Go.ChangeAt Go.RowKit
open Go.ChangeMaps (open_string shut_string)

open Labs LabS Over Blk Alms Rws ChnC ChnK Chs Prt
open Alm (AlIn)
open LabT (held_reads)
open PrtM (MC blksC blksC_low blksC_high sumM sumM_chs)
theorem len_of {rs : List ARow} {P : List PAl} (h : pals rs = P) : rs.length = P.length := by rw [← pals_len, h]
theorem lenc_of {cs : List CRow} {C : List PCh} (h : chs cs = C) : cs.length = C.length := by rw [← chs_len, h]
theorem eqA_any (M M' c c' lo lo' d d' : Nat) (rs rs' : List ARow) (P : List PAl) (w : World) (h : AB lo w M d rs) (h' : AB lo' w M' d' rs') (hp : pals rs = P) (hp' : pals rs' = P) (hl : P.length ≤ maxLen) (hz : FitsP P) :
    Calls Try.prog 12 #[.slice (some ⟨M, 0, none⟩) rs.length c, .slice (some ⟨M', 0, none⟩) rs'.length c'] w fun e w' => e = .returned (.bool true) ∧ Below w.heap.size w w' := by
  have h1 := h.rd
  have h2 := h'.rd
  rw [hp] at h1
  rw [hp'] at h2
  rw [len_of hp, len_of hp']
  exact Alms.eq_any _ _ c c' P w h1.rd h2.rd hl hz
theorem rng {lo : Nat} {w : World} {M c : Nat} {rs : List ARow} (h : AB lo w M c rs) : ∀ k, blks M rs k → lo ≤ k ∧ k < w.heap.size := fun k hk => ⟨blks_low h k hk, blks_high h k hk⟩
theorem rngC {lo : Nat} {w : World} {M c : Nat} {cs : List CRow} (h : CB lo w M c cs) : ∀ k, blksC M cs k → lo ≤ k ∧ k < w.heap.size := fun k hk => ⟨blksC_low h k hk, blksC_high h k hk⟩
theorem row_len {lo : Nat} {w : World} {M c : Nat} {rs : List ARow} (h : AB lo w M c rs) : ∀ x ∈ rs, x.2.2.l.length ≤ 1048576 := fun x hx => (h.rows x hx).2.1
theorem rowC_len {lo : Nat} {w : World} {M c : Nat} {cs : List CRow} {C : List PCh} (h : CB lo w M c cs) (hp : chs cs = C) (hs : sumC C ≤ 2000000) : ∀ x ∈ cs, x.rs.length ≤ 2000000 ∧ ∀ y ∈ x.rs, y.2.2.l.length ≤ 1048576 := fun x hx => by
  refine ⟨?_, row_len (h.rows.rows x hx)⟩
  have hm : x.ch ∈ C := by rw [← hp]; exact List.mem_map.2 ⟨x, hx, rfl⟩
  have h1 := sumC_mem hm
  have h2 := pals_len x.rs
  have h3 : x.ch.P = pals x.rs := rfl
  rw [h3] at h1
  omega
theorem marksC {cs : List CRow} {C : List PCh} (hp : chs cs = C) (hl : C.length ≤ 1100000) (hs : sumC C ≤ 2200000) : 1 + sumM cs ≤ 8000000 := by
  have h1 := sumM_chs cs
  rw [hp, lenc_of hp] at h1
  omega
open PrtW (sweepTo gonesTo verS sweep_sum sweep_fit)
theorem eqPC_any (hd vr : Int) (M M' c c' lo lo' d d' : Nat) (cs cs' : List CRow) (C : List PCh) (w : World) (h : CB lo w M d cs) (h' : CB lo' w M' d' cs') (hp : chs cs = C) (hp' : chs cs' = C) (hl : C.length ≤ maxLen) (hz : FitsC C) :
    Calls Try.prog 11 #[.agg #[.int .i64 hd, .int .i64 vr, .slice (some ⟨M, 0, none⟩) cs.length c], .agg #[.int .i64 hd, .int .i64 vr, .slice (some ⟨M', 0, none⟩) cs'.length c']] w fun e w' => e = .returned (.bool true) ∧ Below w.heap.size w w' := by
  have h1 := h.rd
  have h2 := h'.rd
  rw [hp] at h1
  rw [hp'] at h2
  rw [lenc_of hp, lenc_of hp']
  exact eqPart_any hd vr _ _ c c' C w h1 h2 hl hz
theorem rnC {lo : Nat} {w : World} {M c : Nat} {cs : List CRow} {C : List PCh} (h : CB lo w M c cs) (hp : chs cs = C) : RdG RdN w (some ⟨M, 0, none⟩) C := by have := h.rn; rwa [hp] at this
theorem rdC {lo : Nat} {w : World} {M c : Nat} {cs : List CRow} {C : List PCh} (h : CB lo w M c cs) (hp : chs cs = C) : RdG RdA w (some ⟨M, 0, none⟩) C := (rnC h hp).rd
set_option maxRecDepth 100000 in
set_option maxHeartbeats 4000000 in
theorem walk (hd0 vr0 : Int) (a0 : Option Addr) (cap0 : Nat) (l0 : List PCh) (a1 : Int) (w : World) (r0 : RdG RdA w a0 l0) (m0 : l0.length ≤ maxLen) (z0 : FitsC l0) (y0 : I64 hd0) (x0 : I64 vr0) (z1 : (Lit.int .i64 a1).wf = true) :
    Calls Try.prog 3 #[.agg #[.int .i64 hd0, .int .i64 vr0, .slice a0 l0.length cap0], .int .i64 a1] w fun e w' => e = .returned (.bool true) ∧ Below w.heap.size w w' := by
  have R0 : Hid (RdG RdA w a0 l0) := r0
  have M0 : Hid (l0.length ≤ maxLen) := m0
  have F0 : Hid (FitsC l0) := z0
  have I0 : Hid (I64 hd0 ∧ I64 vr0) := ⟨y0, x0⟩
  clear r0 m0 z0 y0 x0
  have J1 : Hid (I64 a1) := Go.bounds_i64 z1
  clear z1
  have B0 : Hid (Below w.heap.size w w) := Below.refl _ _
  go_enter Try.func3, Try.ntmps3
  go_wp2_with fail
  refine (szPart_any hd0 vr0 a0 cap0 l0 1048576 _ (R0.out.below stays_rd (grow_on B0.out (Go.Joins.below_alloc1 w _))) M0.out F0.out (by omega) (by omega)).mono ?_
  rintro e w1 ⟨⟨k0, rfl, p0, hn⟩, hb⟩
  have P0_1 : Hid (Blk w1 w.heap.size #[.int .i64 hd0, .int .i64 vr0, .slice a0 l0.length cap0] 24) := (Blk.new _ _ _).grow hb
  have U_P0 : Hid (w.heap.size ≤ w.heap.size ∧ w.heap.size < w1.heap.size) := ⟨by omega, P0_1.out.lt⟩
  replace hb := grow_on (Go.Joins.below_alloc1 w _) hb
  have B1 : Hid (Below w.heap.size w w1) := grow_on B0.out hb
  have Z1 : Hid (w.heap.size ≤ w1.heap.size) := hb.size
  clear hb
  by_cases g0 : k0 < 0
  · clear hn
    go_wp2
    go_ret
    exact ⟨rfl, B1.out⟩
  have K0 : Hid (l0.length ≤ 1048576 ∧ sumC l0 ≤ 1048576 ∧ l0.length + sumC l0 ≤ 1048576) := by have := hn (by omega); exact ⟨by omega, by omega, by omega⟩
  have N0 : Hid (PrtA.SmallA l0) := fun q hq => by have := sumC_mem hq; have := K0.out.2.1; exact ⟨by omega, lenM_of (by omega)⟩
  clear hn
  have PD : Hid (sumC (sweepTo l0 a1 l0.length) + (gonesTo l0 a1 l0.length).length + sumL (gonesTo l0 a1 l0.length) ≤ sumC l0 ∧ (sweepTo l0 a1 l0.length).length ≤ l0.length) := by
    have h := sweep_sum (C := l0) (now := a1) (k := l0.length) (Nat.le_refl _)
    rw [List.take_length] at h
    exact h
  have PL : Hid ((sweepTo l0 a1 l0.length).length ≤ maxLen ∧ FitsC (sweepTo l0 a1 l0.length)) := ⟨by have h1 := PD.out.2; have h2 := K0.out.1; exact ChnK.len_max (by omega), (sweep_fit F0.out).1⟩
  have PG : Hid ((gonesTo l0 a1 l0.length).length ≤ maxLen ∧ FitsP (gonesTo l0 a1 l0.length)) := ⟨by have h1 := PD.out.1; have h2 := K0.out.2.1; exact ChnK.len_max (by omega), (sweep_fit F0.out).2⟩
  obtain ⟨vu, hvu⟩ : ∃ vu, verS vr0 (gonesTo l0 a1 l0.length).length = vu := ⟨_, rfl⟩
  have HVU : Hid (verS vr0 (gonesTo l0 a1 l0.length).length = vu) := hvu
  clear hvu
  have cP00 : w1.cell? ⟨w.heap.size, 0, none⟩ = some (.int .i64 hd0) := (P0_1.out).cell 0
  have cP01 : w1.cell? ⟨w.heap.size, 1, none⟩ = some (.int .i64 vr0) := (P0_1.out).cell 1
  have cP02 : w1.cell? ⟨w.heap.size, 2, none⟩ = some (.slice a0 l0.length cap0) := (P0_1.out).cell 2
  go_wp2_with fail
  refine (toPart_any hd0 vr0 a0 cap0 l0 _ (R0.out.below stays_rd B1.out) K0.out.1 K0.out.2.1).mono ?_
  rintro e w2 ⟨⟨SM, Sr, rfl, hA, hP⟩, hb⟩
  have S_2 : Hid (CB w1.heap.size w2 SM l0.length Sr) := hA.down (by first | exact Nat.le_refl _ | simp)
  have SP : Hid (chs Sr = l0) := hP
  have U_S : Hid (w1.heap.size ≤ SM ∧ SM < w2.heap.size) := ⟨S_2.out.at', S_2.out.lt⟩
  clear hA hP
  have B2 : Hid (Below w.heap.size w w2) := grow_on B1.out hb
  have Z2 : Hid (w1.heap.size ≤ w2.heap.size) := hb.size
  have P0_2 : Hid (Blk w2 w.heap.size #[.int .i64 hd0, .int .i64 vr0, .slice a0 l0.length cap0] 24) := P0_1.out.grow hb
  clear hb cP00 cP01 cP02
  have cP00 : w2.cell? ⟨w.heap.size, 0, none⟩ = some (.int .i64 hd0) := (P0_2.out).cell 0
  have cP01 : w2.cell? ⟨w.heap.size, 1, none⟩ = some (.int .i64 vr0) := (P0_2.out).cell 1
  have cP02 : w2.cell? ⟨w.heap.size, 2, none⟩ = some (.slice a0 l0.length cap0) := (P0_2.out).cell 2
  go_wp2_with fail
  refine (PrtX.specSweep_any hd0 vr0 a1 _ _ l0 _ (rnC S_2.out SP.out) K0.out.1 N0.out K0.out.2.1).mono ?_
  rintro e w3 ⟨⟨W1M, W1c, W1r, W2M, W2c, W2r, rfl, hC, hA, hp1, hp2⟩, hb⟩
  rw [HVU.out]
  have W1_3 : Hid (CB w2.heap.size w3 W1M W1c W1r) := hC.down (by first | exact Nat.le_refl _ | simp)
  have W2_3 : Hid (AB w2.heap.size w3 W2M W2c W2r) := hA.down (by first | exact Nat.le_refl _ | simp)
  have W1P : Hid (chs W1r = sweepTo l0 a1 l0.length) := hp1
  have W2P : Hid (pals W2r = gonesTo l0 a1 l0.length) := hp2
  have W1R : Hid (∀ k, blksC W1M W1r k → w2.heap.size ≤ k ∧ k < w3.heap.size) := fun k hk => by have := rngC hC k hk; (try simp at this); omega
  have W2R : Hid (∀ k, blks W2M W2r k → w2.heap.size ≤ k ∧ k < w3.heap.size) := fun k hk => by have := rng hA k hk; (try simp at this); omega
  have WL : Hid ((∀ x ∈ W1r, x.rs.length ≤ 2000000 ∧ ∀ y ∈ x.rs, y.2.2.l.length ≤ 1048576) ∧ ∀ x ∈ W2r, x.2.2.l.length ≤ 1048576) := ⟨rowC_len hC hp1 (by have := PD.out.1; have := K0.out.2.1; omega), row_len hA⟩
  clear hC hA hp1 hp2
  have B3 : Hid (Below w.heap.size w w3) := grow_on B2.out hb
  have Z3 : Hid (w2.heap.size ≤ w3.heap.size) := hb.size
  have P0_3 : Hid (Blk w3 w.heap.size #[.int .i64 hd0, .int .i64 vr0, .slice a0 l0.length cap0] 24) := P0_2.out.grow hb
  have S_3 : Hid (CB w1.heap.size w3 SM l0.length Sr) := S_2.out.grow hb
  clear hb cP00 cP01 cP02
  have cP00 : (w3.alloc (.cells #[.int .i64 hd0, .int .i64 vu, .slice (some ⟨W1M, 0, none⟩) W1r.length W1c] 28)).cell? ⟨w.heap.size, 0, none⟩ = some (.int .i64 hd0) := (P0_3.out.alloc _).cell 0
  have cP01 : (w3.alloc (.cells #[.int .i64 hd0, .int .i64 vu, .slice (some ⟨W1M, 0, none⟩) W1r.length W1c] 28)).cell? ⟨w.heap.size, 1, none⟩ = some (.int .i64 vr0) := (P0_3.out.alloc _).cell 1
  have cP02 : (w3.alloc (.cells #[.int .i64 hd0, .int .i64 vu, .slice (some ⟨W1M, 0, none⟩) W1r.length W1c] 28)).cell? ⟨w.heap.size, 2, none⟩ = some (.slice a0 l0.length cap0) := (P0_3.out.alloc _).cell 2
  go_wp2_with fail
  refine (toPart_any hd0 vr0 a0 cap0 l0 _ (R0.out.below stays_rd (grow_on B3.out (Go.Joins.below_alloc1 w3 _))) K0.out.1 K0.out.2.1).mono ?_
  rintro e w4 ⟨⟨XM, Xr, rfl, hA, hP⟩, hb⟩
  have X_4 : Hid (CB w3.heap.size w4 XM l0.length Xr) := hA.down (by simp)
  have XP : Hid (chs Xr = l0) := hP
  have XR : Hid (∀ k, blksC XM Xr k → w3.heap.size < k ∧ k < w4.heap.size) := fun k hk => by have := rngC hA k hk; simp at this; omega
  clear hA hP
  have W0_4 : Hid (Blk w4 w3.heap.size #[.int .i64 hd0, .int .i64 vu, .slice (some ⟨W1M, 0, none⟩) W1r.length W1c] 28) := (Blk.new _ _ _).grow hb
  have U_W0 : Hid (w3.heap.size ≤ w3.heap.size ∧ w3.heap.size < w4.heap.size) := ⟨Nat.le_refl _, W0_4.out.lt⟩
  replace hb := grow_on (Go.Joins.below_alloc1 w3 _) hb
  have B4 : Hid (Below w.heap.size w w4) := grow_on B3.out hb
  have Z4 : Hid (w3.heap.size ≤ w4.heap.size) := hb.size
  have P0_4 : Hid (Blk w4 w.heap.size #[.int .i64 hd0, .int .i64 vr0, .slice a0 l0.length cap0] 24) := P0_3.out.grow hb
  have W1_4 : Hid (CB w2.heap.size w4 W1M W1c W1r) := W1_3.out.grow hb
  have W2_4 : Hid (AB w2.heap.size w4 W2M W2c W2r) := W2_3.out.grow hb
  clear hb cP00 cP01 cP02
  have cP00 : (w4.alloc (.cells #[.int .i64 hd0, .int .i64 vr0, .slice (some ⟨XM, 0, none⟩) l0.length l0.length] 28)).cell? ⟨w.heap.size, 0, none⟩ = some (.int .i64 hd0) := (P0_4.out.alloc _).cell 0
  have cP01 : (w4.alloc (.cells #[.int .i64 hd0, .int .i64 vr0, .slice (some ⟨XM, 0, none⟩) l0.length l0.length] 28)).cell? ⟨w.heap.size, 1, none⟩ = some (.int .i64 vr0) := (P0_4.out.alloc _).cell 1
  have cP02 : (w4.alloc (.cells #[.int .i64 hd0, .int .i64 vr0, .slice (some ⟨XM, 0, none⟩) l0.length l0.length] 28)).cell? ⟨w.heap.size, 2, none⟩ = some (.slice a0 l0.length cap0) := (P0_4.out.alloc _).cell 2
  have cW00 : (w4.alloc (.cells #[.int .i64 hd0, .int .i64 vr0, .slice (some ⟨XM, 0, none⟩) l0.length l0.length] 28)).cell? ⟨w3.heap.size, 0, none⟩ = some (.int .i64 hd0) := (W0_4.out.alloc _).cell 0
  have cW01 : (w4.alloc (.cells #[.int .i64 hd0, .int .i64 vr0, .slice (some ⟨XM, 0, none⟩) l0.length l0.length] 28)).cell? ⟨w3.heap.size, 1, none⟩ = some (.int .i64 vu) := (W0_4.out.alloc _).cell 1
  have cW02 : (w4.alloc (.cells #[.int .i64 hd0, .int .i64 vr0, .slice (some ⟨XM, 0, none⟩) l0.length l0.length] 28)).cell? ⟨w3.heap.size, 2, none⟩ = some (.slice (some ⟨W1M, 0, none⟩) W1r.length W1c) := (W0_4.out.alloc _).cell 2
  go_wp2_with fail
  refine (PrtY.implSweep_any hd0 vr0 a1 _ _ l0 _ ((rdC X_4.out XP.out).below stays_rd (Go.Joins.below_alloc1 w4 _)) K0.out.1 N0.out K0.out.2.1).mono ?_
  rintro e w5 ⟨⟨G1M, G1c, G1r, G2M, G2c, G2r, rfl, hC, hA, hp1, hp2, hdj⟩, hb⟩
  rw [HVU.out]
  have G1_5 : Hid (CB w4.heap.size w5 G1M G1c G1r) := hC.down (by first | exact Nat.le_refl _ | simp)
  have G2_5 : Hid (AB w4.heap.size w5 G2M G2c G2r) := hA.down (by first | exact Nat.le_refl _ | simp)
  have G1P : Hid (chs G1r = sweepTo l0 a1 l0.length) := hp1
  have G2P : Hid (pals G2r = gonesTo l0 a1 l0.length) := hp2
  have G1R : Hid (∀ k, blksC G1M G1r k → w4.heap.size < k ∧ k < w5.heap.size) := fun k hk => by have := rngC hC k hk; (try simp at this); omega
  have G2R : Hid (∀ k, blks G2M G2r k → w4.heap.size < k ∧ k < w5.heap.size) := fun k hk => by have := rng hA k hk; (try simp at this); omega
  have GL : Hid ((∀ x ∈ G1r, x.rs.length ≤ 2000000 ∧ ∀ y ∈ x.rs, y.2.2.l.length ≤ 1048576) ∧ ∀ x ∈ G2r, x.2.2.l.length ≤ 1048576) := ⟨rowC_len hC hp1 (by have := PD.out.1; have := K0.out.2.1; omega), row_len hA⟩
  have GD : Hid (∀ k, blksC G1M G1r k → ¬ blks G2M G2r k) := hdj
  clear hdj
  clear hC hA hp1 hp2
  have Q0_5 : Hid (Blk w5 w4.heap.size #[.int .i64 hd0, .int .i64 vr0, .slice (some ⟨XM, 0, none⟩) l0.length l0.length] 28) := (Blk.new _ _ _).grow hb
  have U_Q0 : Hid (w4.heap.size ≤ w4.heap.size ∧ w4.heap.size < w5.heap.size) := ⟨Nat.le_refl _, Q0_5.out.lt⟩
  replace hb := grow_on (Go.Joins.below_alloc1 w4 _) hb
  have B5 : Hid (Below w.heap.size w w5) := grow_on B4.out hb
  have Z5 : Hid (w4.heap.size ≤ w5.heap.size) := hb.size
  have P0_5 : Hid (Blk w5 w.heap.size #[.int .i64 hd0, .int .i64 vr0, .slice a0 l0.length cap0] 24) := P0_4.out.grow hb
  have W1_5 : Hid (CB w2.heap.size w5 W1M W1c W1r) := W1_4.out.grow hb
  have W2_5 : Hid (AB w2.heap.size w5 W2M W2c W2r) := W2_4.out.grow hb
  have W0_5 : Hid (Blk w5 w3.heap.size #[.int .i64 hd0, .int .i64 vu, .slice (some ⟨W1M, 0, none⟩) W1r.length W1c] 28) := W0_4.out.grow hb
  have X_5 : Hid (CB w3.heap.size w5 XM l0.length Xr) := X_4.out.grow hb
  clear hb cP00 cP01 cP02 cW00 cW01 cW02
  have cP00 : (w5.alloc (.cells #[.int .i64 hd0, .int .i64 vu, .slice (some ⟨G1M, 0, none⟩) G1r.length G1c] 28)).cell? ⟨w.heap.size, 0, none⟩ = some (.int .i64 hd0) := (P0_5.out.alloc _).cell 0
  have cP01 : (w5.alloc (.cells #[.int .i64 hd0, .int .i64 vu, .slice (some ⟨G1M, 0, none⟩) G1r.length G1c] 28)).cell? ⟨w.heap.size, 1, none⟩ = some (.int .i64 vr0) := (P0_5.out.alloc _).cell 1
  have cP02 : (w5.alloc (.cells #[.int .i64 hd0, .int .i64 vu, .slice (some ⟨G1M, 0, none⟩) G1r.length G1c] 28)).cell? ⟨w.heap.size, 2, none⟩ = some (.slice a0 l0.length cap0) := (P0_5.out.alloc _).cell 2
  have cW00 : (w5.alloc (.cells #[.int .i64 hd0, .int .i64 vu, .slice (some ⟨G1M, 0, none⟩) G1r.length G1c] 28)).cell? ⟨w3.heap.size, 0, none⟩ = some (.int .i64 hd0) := (W0_5.out.alloc _).cell 0
  have cW01 : (w5.alloc (.cells #[.int .i64 hd0, .int .i64 vu, .slice (some ⟨G1M, 0, none⟩) G1r.length G1c] 28)).cell? ⟨w3.heap.size, 1, none⟩ = some (.int .i64 vu) := (W0_5.out.alloc _).cell 1
  have cW02 : (w5.alloc (.cells #[.int .i64 hd0, .int .i64 vu, .slice (some ⟨G1M, 0, none⟩) G1r.length G1c] 28)).cell? ⟨w3.heap.size, 2, none⟩ = some (.slice (some ⟨W1M, 0, none⟩) W1r.length W1c) := (W0_5.out.alloc _).cell 2
  have cQ00 : (w5.alloc (.cells #[.int .i64 hd0, .int .i64 vu, .slice (some ⟨G1M, 0, none⟩) G1r.length G1c] 28)).cell? ⟨w4.heap.size, 0, none⟩ = some (.int .i64 hd0) := (Q0_5.out.alloc _).cell 0
  have cQ01 : (w5.alloc (.cells #[.int .i64 hd0, .int .i64 vu, .slice (some ⟨G1M, 0, none⟩) G1r.length G1c] 28)).cell? ⟨w4.heap.size, 1, none⟩ = some (.int .i64 vr0) := (Q0_5.out.alloc _).cell 1
  have cQ02 : (w5.alloc (.cells #[.int .i64 hd0, .int .i64 vu, .slice (some ⟨G1M, 0, none⟩) G1r.length G1c] 28)).cell? ⟨w4.heap.size, 2, none⟩ = some (.slice (some ⟨XM, 0, none⟩) l0.length l0.length) := (Q0_5.out.alloc _).cell 2
  go_wp2_with fail
  refine (eqPC_any hd0 vu _ _ _ _ _ _ _ _ G1r W1r _ _ (G1_5.out.grow (Go.Joins.below_alloc1 w5 _)) (W1_5.out.grow (Go.Joins.below_alloc1 w5 _)) G1P.out W1P.out PL.out.1 PL.out.2).mono ?_
  rintro e w6 ⟨rfl, hb⟩
  have G0_6 : Hid (Blk w6 w5.heap.size #[.int .i64 hd0, .int .i64 vu, .slice (some ⟨G1M, 0, none⟩) G1r.length G1c] 28) := (Blk.new _ _ _).grow hb
  have U_G0 : Hid (w5.heap.size ≤ w5.heap.size ∧ w5.heap.size < w6.heap.size) := ⟨Nat.le_refl _, G0_6.out.lt⟩
  replace hb := grow_on (Go.Joins.below_alloc1 w5 _) hb
  have B6 : Hid (Below w.heap.size w w6) := grow_on B5.out hb
  have Z6 : Hid (w5.heap.size ≤ w6.heap.size) := hb.size
  have P0_6 : Hid (Blk w6 w.heap.size #[.int .i64 hd0, .int .i64 vr0, .slice a0 l0.length cap0] 24) := P0_5.out.grow hb
  have W1_6 : Hid (CB w2.heap.size w6 W1M W1c W1r) := W1_5.out.grow hb
  have W2_6 : Hid (AB w2.heap.size w6 W2M W2c W2r) := W2_5.out.grow hb
  have W0_6 : Hid (Blk w6 w3.heap.size #[.int .i64 hd0, .int .i64 vu, .slice (some ⟨W1M, 0, none⟩) W1r.length W1c] 28) := W0_5.out.grow hb
  have X_6 : Hid (CB w3.heap.size w6 XM l0.length Xr) := X_5.out.grow hb
  have Q0_6 : Hid (Blk w6 w4.heap.size #[.int .i64 hd0, .int .i64 vr0, .slice (some ⟨XM, 0, none⟩) l0.length l0.length] 28) := Q0_5.out.grow hb
  have G1_6 : Hid (CB w4.heap.size w6 G1M G1c G1r) := G1_5.out.grow hb
  have G2_6 : Hid (AB w4.heap.size w6 G2M G2c G2r) := G2_5.out.grow hb
  clear hb cP00 cP01 cP02 cW00 cW01 cW02 cQ00 cQ01 cQ02
  have cP00 : w6.cell? ⟨w.heap.size, 0, none⟩ = some (.int .i64 hd0) := (P0_6.out).cell 0
  have cP01 : w6.cell? ⟨w.heap.size, 1, none⟩ = some (.int .i64 vr0) := (P0_6.out).cell 1
  have cP02 : w6.cell? ⟨w.heap.size, 2, none⟩ = some (.slice a0 l0.length cap0) := (P0_6.out).cell 2
  have cW00 : w6.cell? ⟨w3.heap.size, 0, none⟩ = some (.int .i64 hd0) := (W0_6.out).cell 0
  have cW01 : w6.cell? ⟨w3.heap.size, 1, none⟩ = some (.int .i64 vu) := (W0_6.out).cell 1
  have cW02 : w6.cell? ⟨w3.heap.size, 2, none⟩ = some (.slice (some ⟨W1M, 0, none⟩) W1r.length W1c) := (W0_6.out).cell 2
  have cQ00 : w6.cell? ⟨w4.heap.size, 0, none⟩ = some (.int .i64 hd0) := (Q0_6.out).cell 0
  have cQ01 : w6.cell? ⟨w4.heap.size, 1, none⟩ = some (.int .i64 vr0) := (Q0_6.out).cell 1
  have cQ02 : w6.cell? ⟨w4.heap.size, 2, none⟩ = some (.slice (some ⟨XM, 0, none⟩) l0.length l0.length) := (Q0_6.out).cell 2
  have cG00 : w6.cell? ⟨w5.heap.size, 0, none⟩ = some (.int .i64 hd0) := (G0_6.out).cell 0
  have cG01 : w6.cell? ⟨w5.heap.size, 1, none⟩ = some (.int .i64 vu) := (G0_6.out).cell 1
  have cG02 : w6.cell? ⟨w5.heap.size, 2, none⟩ = some (.slice (some ⟨G1M, 0, none⟩) G1r.length G1c) := (G0_6.out).cell 2
  go_wp2_with fail
  refine (eqA_any _ _ _ _ _ _ _ _ G2r W2r _ _ G2_6.out W2_6.out G2P.out W2P.out PG.out.1 PG.out.2).mono ?_
  rintro e w7 ⟨rfl, hb⟩
  have B7 : Hid (Below w.heap.size w w7) := grow_on B6.out hb
  have Z7 : Hid (w6.heap.size ≤ w7.heap.size) := hb.size
  have P0_7 : Hid (Blk w7 w.heap.size #[.int .i64 hd0, .int .i64 vr0, .slice a0 l0.length cap0] 24) := P0_6.out.grow hb
  have W1_7 : Hid (CB w2.heap.size w7 W1M W1c W1r) := W1_6.out.grow hb
  have W2_7 : Hid (AB w2.heap.size w7 W2M W2c W2r) := W2_6.out.grow hb
  have W0_7 : Hid (Blk w7 w3.heap.size #[.int .i64 hd0, .int .i64 vu, .slice (some ⟨W1M, 0, none⟩) W1r.length W1c] 28) := W0_6.out.grow hb
  have X_7 : Hid (CB w3.heap.size w7 XM l0.length Xr) := X_6.out.grow hb
  have Q0_7 : Hid (Blk w7 w4.heap.size #[.int .i64 hd0, .int .i64 vr0, .slice (some ⟨XM, 0, none⟩) l0.length l0.length] 28) := Q0_6.out.grow hb
  have G1_7 : Hid (CB w4.heap.size w7 G1M G1c G1r) := G1_6.out.grow hb
  have G2_7 : Hid (AB w4.heap.size w7 G2M G2c G2r) := G2_6.out.grow hb
  have G0_7 : Hid (Blk w7 w5.heap.size #[.int .i64 hd0, .int .i64 vu, .slice (some ⟨G1M, 0, none⟩) G1r.length G1c] 28) := G0_6.out.grow hb
  clear hb cP00 cP01 cP02 cW00 cW01 cW02 cQ00 cQ01 cQ02 cG00 cG01 cG02
  have cP00 : w7.cell? ⟨w.heap.size, 0, none⟩ = some (.int .i64 hd0) := (P0_7.out).cell 0
  have cP01 : w7.cell? ⟨w.heap.size, 1, none⟩ = some (.int .i64 vr0) := (P0_7.out).cell 1
  have cP02 : w7.cell? ⟨w.heap.size, 2, none⟩ = some (.slice a0 l0.length cap0) := (P0_7.out).cell 2
  have cQ00 : w7.cell? ⟨w4.heap.size, 0, none⟩ = some (.int .i64 hd0) := (Q0_7.out).cell 0
  have cQ01 : w7.cell? ⟨w4.heap.size, 1, none⟩ = some (.int .i64 vr0) := (Q0_7.out).cell 1
  have cQ02 : w7.cell? ⟨w4.heap.size, 2, none⟩ = some (.slice (some ⟨XM, 0, none⟩) l0.length l0.length) := (Q0_7.out).cell 2
  go_wp2
  have kz : Below w7.heap.size w7 w7.drew := (Below.refl _ _).drew
  have kP0 := P0_7.out.lt
  have kQ0 := Q0_7.out.lt
  have HS : Hid (∀ w', Below w7.heap.size w7 w' → Below w7.heap.size w7 w' ∧ w'.cell? ⟨w.heap.size, 0, none⟩ = some (.int .i64 hd0) ∧ w'.cell? ⟨w.heap.size, 1, none⟩ = some (.int .i64 vr0) ∧ w'.cell? ⟨w.heap.size, 2, none⟩ = some (.slice a0 l0.length cap0) ∧ w'.cell? ⟨w4.heap.size, 0, none⟩ = some (.int .i64 hd0) ∧ w'.cell? ⟨w4.heap.size, 1, none⟩ = some (.int .i64 vr0) ∧ w'.cell? ⟨w4.heap.size, 2, none⟩ = some (.slice (some ⟨XM, 0, none⟩) l0.length l0.length)) := fun w' h => ⟨h, (h.cell kP0).trans cP00, (h.cell kP0).trans cP01, (h.cell kP0).trans cP02, (h.cell kQ0).trans cQ00, (h.cell kQ0).trans cQ01, (h.cell kQ0).trans cQ02⟩
  go_region_held3 (fun w' => Below w7.heap.size w7 w' ∧ w'.cell? ⟨w.heap.size, 0, none⟩ = some (.int .i64 hd0) ∧ w'.cell? ⟨w.heap.size, 1, none⟩ = some (.int .i64 vr0) ∧ w'.cell? ⟨w.heap.size, 2, none⟩ = some (.slice a0 l0.length cap0) ∧ w'.cell? ⟨w4.heap.size, 0, none⟩ = some (.int .i64 hd0) ∧ w'.cell? ⟨w4.heap.size, 1, none⟩ = some (.int .i64 vr0) ∧ w'.cell? ⟨w4.heap.size, 2, none⟩ = some (.slice (some ⟨XM, 0, none⟩) l0.length l0.length)) (first | with_reducible exact HS.out _ kz | with_reducible exact HS.out _ (grow_on kz hy0) | with_reducible exact HS.out _ (grow_on (grow_on kz hy0) hy1) | (go_keep; done)) (first | (go_at_call 9; with_reducible refine (toPart_any hd0 vr0 a0 cap0 l0 _ (R0.out.below stays_rd (grow_on B7.out kz)) K0.out.1 K0.out.2.1).mono ?_; rintro e wy ⟨⟨EM, Er, rfl, hA, hP⟩, hy0⟩) | (go_at_call 11; refine (eqPart_any hd0 vr0 _ _ _ _ l0 _ ((rdC X_7.out XP.out).below stays_rd (grow_on kz hy0)) (rdC hA hP) M0.out F0.out).mono ?_; rintro e w8 ⟨rfl, hy1⟩))
  have hb := (grow_on (grow_on kz hy0) hy1)
  have B8 : Hid (Below w.heap.size w w8) := grow_on B7.out hb
  have Z8 : Hid (w7.heap.size ≤ w8.heap.size) := hb.size
  have P0_8 : Hid (Blk w8 w.heap.size #[.int .i64 hd0, .int .i64 vr0, .slice a0 l0.length cap0] 24) := P0_7.out.grow hb
  have W1_8 : Hid (CB w2.heap.size w8 W1M W1c W1r) := W1_7.out.grow hb
  have W2_8 : Hid (AB w2.heap.size w8 W2M W2c W2r) := W2_7.out.grow hb
  have W0_8 : Hid (Blk w8 w3.heap.size #[.int .i64 hd0, .int .i64 vu, .slice (some ⟨W1M, 0, none⟩) W1r.length W1c] 28) := W0_7.out.grow hb
  have X_8 : Hid (CB w3.heap.size w8 XM l0.length Xr) := X_7.out.grow hb
  have Q0_8 : Hid (Blk w8 w4.heap.size #[.int .i64 hd0, .int .i64 vr0, .slice (some ⟨XM, 0, none⟩) l0.length l0.length] 28) := Q0_7.out.grow hb
  have G1_8 : Hid (CB w4.heap.size w8 G1M G1c G1r) := G1_7.out.grow hb
  have G2_8 : Hid (AB w4.heap.size w8 G2M G2c G2r) := G2_7.out.grow hb
  have G0_8 : Hid (Blk w8 w5.heap.size #[.int .i64 hd0, .int .i64 vu, .slice (some ⟨G1M, 0, none⟩) G1r.length G1c] 28) := G0_7.out.grow hb
  clear hb kz HS hy0 hy1 kP0 kQ0 cP00 cP01 cP02 cQ00 cQ01 cQ02 hA hP
  have XL : Hid (Xr.length = l0.length) := lenc_of XP.out
  have XS : Hid (1 + sumM Xr ≤ 9000000) := by have := marksC XP.out (by have := K0.out; omega) (by have := K0.out; omega); show _ ≤ _; omega
  have hXM : Hid (Calls Try.prog 13 #[.agg #[.int .i64 hd0, .int .i64 vr0, .slice (some ⟨XM, 0, none⟩) l0.length l0.length], .int .i64 1] w8 fun e w' => e = .returned (.int .i64 ((1 + sumM Xr : Nat) : Int)) ∧ Only (blksC XM Xr) w8 w') := by
    have h := (PrtM.markPart_any hd0 vr0 XM l0.length 1 _ l0.length Xr w8 X_8.out (by rw [XL.out]; have := K0.out.1; omega) (fun x hx => (rowC_len X_8.out XP.out (by have := K0.out; omega) x hx).1) (by omega) XS.out).mono (fun e w' h => (⟨h.1, h.2.2⟩ : e = .returned (.int .i64 ((1 + sumM Xr : Nat) : Int)) ∧ Only (blksC XM Xr) w8 w'))
    rw [XL.out] at h
    exact h
  have cP00 : w8.cell? ⟨w.heap.size, 0, none⟩ = some (.int .i64 hd0) := (P0_8.out).cell 0
  have cP01 : w8.cell? ⟨w.heap.size, 1, none⟩ = some (.int .i64 vr0) := (P0_8.out).cell 1
  have cP02 : w8.cell? ⟨w.heap.size, 2, none⟩ = some (.slice a0 l0.length cap0) := (P0_8.out).cell 2
  have cW00 : w8.cell? ⟨w3.heap.size, 0, none⟩ = some (.int .i64 hd0) := (W0_8.out).cell 0
  have cW01 : w8.cell? ⟨w3.heap.size, 1, none⟩ = some (.int .i64 vu) := (W0_8.out).cell 1
  have cW02 : w8.cell? ⟨w3.heap.size, 2, none⟩ = some (.slice (some ⟨W1M, 0, none⟩) W1r.length W1c) := (W0_8.out).cell 2
  have cQ00 : w8.cell? ⟨w4.heap.size, 0, none⟩ = some (.int .i64 hd0) := (Q0_8.out).cell 0
  have cQ01 : w8.cell? ⟨w4.heap.size, 1, none⟩ = some (.int .i64 vr0) := (Q0_8.out).cell 1
  have cQ02 : w8.cell? ⟨w4.heap.size, 2, none⟩ = some (.slice (some ⟨XM, 0, none⟩) l0.length l0.length) := (Q0_8.out).cell 2
  have cG00 : w8.cell? ⟨w5.heap.size, 0, none⟩ = some (.int .i64 hd0) := (G0_8.out).cell 0
  have cG01 : w8.cell? ⟨w5.heap.size, 1, none⟩ = some (.int .i64 vu) := (G0_8.out).cell 1
  have cG02 : w8.cell? ⟨w5.heap.size, 2, none⟩ = some (.slice (some ⟨G1M, 0, none⟩) G1r.length G1c) := (G0_8.out).cell 2
  go_wp2_with fail
  refine (hXM.out).mono ?_
  rintro e w9 ⟨rfl, ho⟩
  have B9 : Hid (Below w.heap.size w w9) := B8.out.trans (ho.low (fun k hk => by have hx := XR.out k hk; have hw := B3.out.size; omega) B8.out.size)
  have Z9 : Hid (w8.heap.size ≤ w9.heap.size) := ho.size
  have P0_9 : Hid (Blk w9 w.heap.size #[.int .i64 hd0, .int .i64 vr0, .slice a0 l0.length cap0] 24) := ho.blk P0_8.out (fun hs => by have hx := XR.out _ hs; have h0 := Z1.out; have h1 := Z2.out; have h2 := Z3.out; have h3 := Z4.out; have h4 := Z5.out; have h5 := Z6.out; have h6 := Z7.out; have h7 := Z8.out; have h8 := Z9.out; have h9 := U_P0.out; have h10 := U_S.out; have h11 := U_W0.out; have h12 := U_Q0.out; have h13 := U_G0.out; omega)
  have W1_9 : Hid (CB w2.heap.size w9 W1M W1c W1r) := PrtM.cb_only W1_8.out ho (fun k hk hs => by have hx := XR.out k hs; have hy := W1R.out k hk; have h0 := Z1.out; have h1 := Z2.out; have h2 := Z3.out; have h3 := Z4.out; have h4 := Z5.out; have h5 := Z6.out; have h6 := Z7.out; have h7 := Z8.out; have h8 := Z9.out; have h9 := U_P0.out; have h10 := U_S.out; have h11 := U_W0.out; have h12 := U_Q0.out; have h13 := U_G0.out; omega)
  have W2_9 : Hid (AB w2.heap.size w9 W2M W2c W2r) := ab_only W2_8.out ho (fun k hk hs => by have hx := XR.out k hs; have hy := W2R.out k hk; have h0 := Z1.out; have h1 := Z2.out; have h2 := Z3.out; have h3 := Z4.out; have h4 := Z5.out; have h5 := Z6.out; have h6 := Z7.out; have h7 := Z8.out; have h8 := Z9.out; have h9 := U_P0.out; have h10 := U_S.out; have h11 := U_W0.out; have h12 := U_Q0.out; have h13 := U_G0.out; omega)
  have W0_9 : Hid (Blk w9 w3.heap.size #[.int .i64 hd0, .int .i64 vu, .slice (some ⟨W1M, 0, none⟩) W1r.length W1c] 28) := ho.blk W0_8.out (fun hs => by have hx := XR.out _ hs; have h0 := Z1.out; have h1 := Z2.out; have h2 := Z3.out; have h3 := Z4.out; have h4 := Z5.out; have h5 := Z6.out; have h6 := Z7.out; have h7 := Z8.out; have h8 := Z9.out; have h9 := U_P0.out; have h10 := U_S.out; have h11 := U_W0.out; have h12 := U_Q0.out; have h13 := U_G0.out; omega)
  have G1_9 : Hid (CB w4.heap.size w9 G1M G1c G1r) := PrtM.cb_only G1_8.out ho (fun k hk hs => by have hx := XR.out k hs; have hy := G1R.out k hk; have h0 := Z1.out; have h1 := Z2.out; have h2 := Z3.out; have h3 := Z4.out; have h4 := Z5.out; have h5 := Z6.out; have h6 := Z7.out; have h7 := Z8.out; have h8 := Z9.out; have h9 := U_P0.out; have h10 := U_S.out; have h11 := U_W0.out; have h12 := U_Q0.out; have h13 := U_G0.out; omega)
  have G2_9 : Hid (AB w4.heap.size w9 G2M G2c G2r) := ab_only G2_8.out ho (fun k hk hs => by have hx := XR.out k hs; have hy := G2R.out k hk; have h0 := Z1.out; have h1 := Z2.out; have h2 := Z3.out; have h3 := Z4.out; have h4 := Z5.out; have h5 := Z6.out; have h6 := Z7.out; have h7 := Z8.out; have h8 := Z9.out; have h9 := U_P0.out; have h10 := U_S.out; have h11 := U_W0.out; have h12 := U_Q0.out; have h13 := U_G0.out; omega)
  have G0_9 : Hid (Blk w9 w5.heap.size #[.int .i64 hd0, .int .i64 vu, .slice (some ⟨G1M, 0, none⟩) G1r.length G1c] 28) := ho.blk G0_8.out (fun hs => by have hx := XR.out _ hs; have h0 := Z1.out; have h1 := Z2.out; have h2 := Z3.out; have h3 := Z4.out; have h4 := Z5.out; have h5 := Z6.out; have h6 := Z7.out; have h7 := Z8.out; have h8 := Z9.out; have h9 := U_P0.out; have h10 := U_S.out; have h11 := U_W0.out; have h12 := U_Q0.out; have h13 := U_G0.out; omega)
  clear ho cP00 cP01 cP02 cW00 cW01 cW02 cQ00 cQ01 cQ02 cG00 cG01 cG02
  have hq : ¬ ((1 + sumM Xr : Nat) : Int) < 0 := by omega
  generalize 1 + sumM Xr = m1 at hq ⊢
  have cP00 : w9.cell? ⟨w.heap.size, 0, none⟩ = some (.int .i64 hd0) := (P0_9.out).cell 0
  have cP01 : w9.cell? ⟨w.heap.size, 1, none⟩ = some (.int .i64 vr0) := (P0_9.out).cell 1
  have cP02 : w9.cell? ⟨w.heap.size, 2, none⟩ = some (.slice a0 l0.length cap0) := (P0_9.out).cell 2
  have cW00 : w9.cell? ⟨w3.heap.size, 0, none⟩ = some (.int .i64 hd0) := (W0_9.out).cell 0
  have cW01 : w9.cell? ⟨w3.heap.size, 1, none⟩ = some (.int .i64 vu) := (W0_9.out).cell 1
  have cW02 : w9.cell? ⟨w3.heap.size, 2, none⟩ = some (.slice (some ⟨W1M, 0, none⟩) W1r.length W1c) := (W0_9.out).cell 2
  have cG00 : w9.cell? ⟨w5.heap.size, 0, none⟩ = some (.int .i64 hd0) := (G0_9.out).cell 0
  have cG01 : w9.cell? ⟨w5.heap.size, 1, none⟩ = some (.int .i64 vu) := (G0_9.out).cell 1
  have cG02 : w9.cell? ⟨w5.heap.size, 2, none⟩ = some (.slice (some ⟨G1M, 0, none⟩) G1r.length G1c) := (G0_9.out).cell 2
  go_wp2_with fail
  refine (eqPC_any hd0 vu _ _ _ _ _ _ _ _ G1r W1r _ _ (G1_9.out) (W1_9.out) G1P.out W1P.out PL.out.1 PL.out.2).mono ?_
  rintro e w10 ⟨rfl, hb⟩
  have B10 : Hid (Below w.heap.size w w10) := grow_on B9.out hb
  have Z10 : Hid (w9.heap.size ≤ w10.heap.size) := hb.size
  have P0_10 : Hid (Blk w10 w.heap.size #[.int .i64 hd0, .int .i64 vr0, .slice a0 l0.length cap0] 24) := P0_9.out.grow hb
  have W1_10 : Hid (CB w2.heap.size w10 W1M W1c W1r) := W1_9.out.grow hb
  have W2_10 : Hid (AB w2.heap.size w10 W2M W2c W2r) := W2_9.out.grow hb
  have W0_10 : Hid (Blk w10 w3.heap.size #[.int .i64 hd0, .int .i64 vu, .slice (some ⟨W1M, 0, none⟩) W1r.length W1c] 28) := W0_9.out.grow hb
  have G1_10 : Hid (CB w4.heap.size w10 G1M G1c G1r) := G1_9.out.grow hb
  have G2_10 : Hid (AB w4.heap.size w10 G2M G2c G2r) := G2_9.out.grow hb
  have G0_10 : Hid (Blk w10 w5.heap.size #[.int .i64 hd0, .int .i64 vu, .slice (some ⟨G1M, 0, none⟩) G1r.length G1c] 28) := G0_9.out.grow hb
  clear hb cP00 cP01 cP02 cW00 cW01 cW02 cG00 cG01 cG02
  have cP00 : w10.cell? ⟨w.heap.size, 0, none⟩ = some (.int .i64 hd0) := (P0_10.out).cell 0
  have cP01 : w10.cell? ⟨w.heap.size, 1, none⟩ = some (.int .i64 vr0) := (P0_10.out).cell 1
  have cP02 : w10.cell? ⟨w.heap.size, 2, none⟩ = some (.slice a0 l0.length cap0) := (P0_10.out).cell 2
  have cW00 : w10.cell? ⟨w3.heap.size, 0, none⟩ = some (.int .i64 hd0) := (W0_10.out).cell 0
  have cW01 : w10.cell? ⟨w3.heap.size, 1, none⟩ = some (.int .i64 vu) := (W0_10.out).cell 1
  have cW02 : w10.cell? ⟨w3.heap.size, 2, none⟩ = some (.slice (some ⟨W1M, 0, none⟩) W1r.length W1c) := (W0_10.out).cell 2
  have cG00 : w10.cell? ⟨w5.heap.size, 0, none⟩ = some (.int .i64 hd0) := (G0_10.out).cell 0
  have cG01 : w10.cell? ⟨w5.heap.size, 1, none⟩ = some (.int .i64 vu) := (G0_10.out).cell 1
  have cG02 : w10.cell? ⟨w5.heap.size, 2, none⟩ = some (.slice (some ⟨G1M, 0, none⟩) G1r.length G1c) := (G0_10.out).cell 2
  go_wp2_with fail
  refine (eqA_any _ _ _ _ _ _ _ _ G2r W2r _ _ G2_10.out W2_10.out G2P.out W2P.out PG.out.1 PG.out.2).mono ?_
  rintro e w11 ⟨rfl, hb⟩
  have B11 : Hid (Below w.heap.size w w11) := grow_on B10.out hb
  have Z11 : Hid (w10.heap.size ≤ w11.heap.size) := hb.size
  have P0_11 : Hid (Blk w11 w.heap.size #[.int .i64 hd0, .int .i64 vr0, .slice a0 l0.length cap0] 24) := P0_10.out.grow hb
  have W1_11 : Hid (CB w2.heap.size w11 W1M W1c W1r) := W1_10.out.grow hb
  have W2_11 : Hid (AB w2.heap.size w11 W2M W2c W2r) := W2_10.out.grow hb
  have W0_11 : Hid (Blk w11 w3.heap.size #[.int .i64 hd0, .int .i64 vu, .slice (some ⟨W1M, 0, none⟩) W1r.length W1c] 28) := W0_10.out.grow hb
  have G1_11 : Hid (CB w4.heap.size w11 G1M G1c G1r) := G1_10.out.grow hb
  have G2_11 : Hid (AB w4.heap.size w11 G2M G2c G2r) := G2_10.out.grow hb
  have G0_11 : Hid (Blk w11 w5.heap.size #[.int .i64 hd0, .int .i64 vu, .slice (some ⟨G1M, 0, none⟩) G1r.length G1c] 28) := G0_10.out.grow hb
  clear hb cP00 cP01 cP02 cW00 cW01 cW02 cG00 cG01 cG02
  clear hq
  have GS : Hid (1 + sumM G1r + sumA G2r ≤ 9000000 ∧ G1r.length ≤ 2000000 ∧ G2r.length ≤ 2000000) := by
    have h1 := sumM_chs G1r
    have h2 := sumA_pals G2r
    rw [G1P.out, lenc_of G1P.out] at h1
    rw [G2P.out, len_of G2P.out] at h2
    have h3 := PD.out
    have h4 := K0.out
    have h5 := lenc_of G1P.out
    have h6 := len_of G2P.out
    exact ⟨by omega, by omega, by omega⟩
  have cP00 : w11.cell? ⟨w.heap.size, 0, none⟩ = some (.int .i64 hd0) := (P0_11.out).cell 0
  have cP01 : w11.cell? ⟨w.heap.size, 1, none⟩ = some (.int .i64 vr0) := (P0_11.out).cell 1
  have cP02 : w11.cell? ⟨w.heap.size, 2, none⟩ = some (.slice a0 l0.length cap0) := (P0_11.out).cell 2
  have cW00 : w11.cell? ⟨w3.heap.size, 0, none⟩ = some (.int .i64 hd0) := (W0_11.out).cell 0
  have cW01 : w11.cell? ⟨w3.heap.size, 1, none⟩ = some (.int .i64 vu) := (W0_11.out).cell 1
  have cW02 : w11.cell? ⟨w3.heap.size, 2, none⟩ = some (.slice (some ⟨W1M, 0, none⟩) W1r.length W1c) := (W0_11.out).cell 2
  have cG00 : w11.cell? ⟨w5.heap.size, 0, none⟩ = some (.int .i64 hd0) := (G0_11.out).cell 0
  have cG01 : w11.cell? ⟨w5.heap.size, 1, none⟩ = some (.int .i64 vu) := (G0_11.out).cell 1
  have cG02 : w11.cell? ⟨w5.heap.size, 2, none⟩ = some (.slice (some ⟨G1M, 0, none⟩) G1r.length G1c) := (G0_11.out).cell 2
  go_wp2_with fail
  refine (PrtM.markPart_any hd0 vu G1M G1c 1 _ G1c G1r w11 G1_11.out GS.out.2.1 (fun x hx => (GL.out.1 x hx).1) (by omega) (by have := GS.out.1; omega)).mono ?_
  rintro e w12 ⟨rfl, hm, ho⟩
  have B12 : Hid (Below w.heap.size w w12) := B11.out.trans (ho.low (fun k hk => by have hx := G1R.out k hk; have hw := B4.out.size; have h0 := Z1.out; have h1 := Z2.out; have h2 := Z3.out; have h3 := Z4.out; have h4 := Z5.out; have h5 := Z6.out; have h6 := Z7.out; have h7 := Z8.out; have h8 := Z9.out; have h9 := Z10.out; have h10 := Z11.out; have h11 := U_P0.out; have h12 := U_S.out; have h13 := U_W0.out; have h14 := U_Q0.out; have h15 := U_G0.out; omega) B11.out.size)
  have Z12 : Hid (w11.heap.size ≤ w12.heap.size) := ho.size
  have P0_12 : Hid (Blk w12 w.heap.size #[.int .i64 hd0, .int .i64 vr0, .slice a0 l0.length cap0] 24) := ho.blk P0_11.out (fun hs => by have hx := G1R.out _ hs; have h0 := Z1.out; have h1 := Z2.out; have h2 := Z3.out; have h3 := Z4.out; have h4 := Z5.out; have h5 := Z6.out; have h6 := Z7.out; have h7 := Z8.out; have h8 := Z9.out; have h9 := Z10.out; have h10 := Z11.out; have h11 := Z12.out; have h12 := U_P0.out; have h13 := U_S.out; have h14 := U_W0.out; have h15 := U_Q0.out; have h16 := U_G0.out; omega)
  have W1_12 : Hid (CB w2.heap.size w12 W1M W1c W1r) := PrtM.cb_only W1_11.out ho (fun k hk hs => by have hx := G1R.out k hs; have hy := W1R.out k hk; have h0 := Z1.out; have h1 := Z2.out; have h2 := Z3.out; have h3 := Z4.out; have h4 := Z5.out; have h5 := Z6.out; have h6 := Z7.out; have h7 := Z8.out; have h8 := Z9.out; have h9 := Z10.out; have h10 := Z11.out; have h11 := Z12.out; have h12 := U_P0.out; have h13 := U_S.out; have h14 := U_W0.out; have h15 := U_Q0.out; have h16 := U_G0.out; omega)
  have W2_12 : Hid (AB w2.heap.size w12 W2M W2c W2r) := ab_only W2_11.out ho (fun k hk hs => by have hx := G1R.out k hs; have hy := W2R.out k hk; have h0 := Z1.out; have h1 := Z2.out; have h2 := Z3.out; have h3 := Z4.out; have h4 := Z5.out; have h5 := Z6.out; have h6 := Z7.out; have h7 := Z8.out; have h8 := Z9.out; have h9 := Z10.out; have h10 := Z11.out; have h11 := Z12.out; have h12 := U_P0.out; have h13 := U_S.out; have h14 := U_W0.out; have h15 := U_Q0.out; have h16 := U_G0.out; omega)
  have W0_12 : Hid (Blk w12 w3.heap.size #[.int .i64 hd0, .int .i64 vu, .slice (some ⟨W1M, 0, none⟩) W1r.length W1c] 28) := ho.blk W0_11.out (fun hs => by have hx := G1R.out _ hs; have h0 := Z1.out; have h1 := Z2.out; have h2 := Z3.out; have h3 := Z4.out; have h4 := Z5.out; have h5 := Z6.out; have h6 := Z7.out; have h7 := Z8.out; have h8 := Z9.out; have h9 := Z10.out; have h10 := Z11.out; have h11 := Z12.out; have h12 := U_P0.out; have h13 := U_S.out; have h14 := U_W0.out; have h15 := U_Q0.out; have h16 := U_G0.out; omega)
  have G2_12 : Hid (AB w4.heap.size w12 G2M G2c G2r) := ab_only G2_11.out ho (fun k hk hs => GD.out k hs hk)
  have G0_12 : Hid (Blk w12 w5.heap.size #[.int .i64 hd0, .int .i64 vu, .slice (some ⟨G1M, 0, none⟩) G1r.length G1c] 28) := ho.blk G0_11.out (fun hs => by have hx := G1R.out _ hs; have h0 := Z1.out; have h1 := Z2.out; have h2 := Z3.out; have h3 := Z4.out; have h4 := Z5.out; have h5 := Z6.out; have h6 := Z7.out; have h7 := Z8.out; have h8 := Z9.out; have h9 := Z10.out; have h10 := Z11.out; have h11 := Z12.out; have h12 := U_P0.out; have h13 := U_S.out; have h14 := U_W0.out; have h15 := U_Q0.out; have h16 := U_G0.out; omega)
  have H1_12 : Hid (MC w12 G1M G1r 1 G1r.length) := hm
  clear hm
  clear ho cP00 cP01 cP02 cW00 cW01 cW02 cG00 cG01 cG02
  generalize hz1 : 1 + sumM G1r = z1
  have HZ1 : Hid (1 + sumM G1r = z1) := hz1
  clear hz1
  have cP00 : w12.cell? ⟨w.heap.size, 0, none⟩ = some (.int .i64 hd0) := (P0_12.out).cell 0
  have cP01 : w12.cell? ⟨w.heap.size, 1, none⟩ = some (.int .i64 vr0) := (P0_12.out).cell 1
  have cP02 : w12.cell? ⟨w.heap.size, 2, none⟩ = some (.slice a0 l0.length cap0) := (P0_12.out).cell 2
  have cW00 : w12.cell? ⟨w3.heap.size, 0, none⟩ = some (.int .i64 hd0) := (W0_12.out).cell 0
  have cW01 : w12.cell? ⟨w3.heap.size, 1, none⟩ = some (.int .i64 vu) := (W0_12.out).cell 1
  have cW02 : w12.cell? ⟨w3.heap.size, 2, none⟩ = some (.slice (some ⟨W1M, 0, none⟩) W1r.length W1c) := (W0_12.out).cell 2
  have cG00 : w12.cell? ⟨w5.heap.size, 0, none⟩ = some (.int .i64 hd0) := (G0_12.out).cell 0
  have cG01 : w12.cell? ⟨w5.heap.size, 1, none⟩ = some (.int .i64 vu) := (G0_12.out).cell 1
  have cG02 : w12.cell? ⟨w5.heap.size, 2, none⟩ = some (.slice (some ⟨G1M, 0, none⟩) G1r.length G1c) := (G0_12.out).cell 2
  go_wp2_with fail
  refine (markS_any G2M G2c z1 _ G2c G2r w12 G2_12.out GS.out.2.2 (by have := HZ1.out; omega) (by have := GS.out.1; have := HZ1.out; omega)).mono ?_
  rintro e w13 ⟨rfl, hm, ho⟩
  have B13 : Hid (Below w.heap.size w w13) := B12.out.trans (ho.low (fun k hk => by have hx := G2R.out k hk; have hw := B4.out.size; have h0 := Z1.out; have h1 := Z2.out; have h2 := Z3.out; have h3 := Z4.out; have h4 := Z5.out; have h5 := Z6.out; have h6 := Z7.out; have h7 := Z8.out; have h8 := Z9.out; have h9 := Z10.out; have h10 := Z11.out; have h11 := Z12.out; have h12 := U_P0.out; have h13 := U_S.out; have h14 := U_W0.out; have h15 := U_Q0.out; have h16 := U_G0.out; omega) B12.out.size)
  have Z13 : Hid (w12.heap.size ≤ w13.heap.size) := ho.size
  have P0_13 : Hid (Blk w13 w.heap.size #[.int .i64 hd0, .int .i64 vr0, .slice a0 l0.length cap0] 24) := ho.blk P0_12.out (fun hs => by have hx := G2R.out _ hs; have h0 := Z1.out; have h1 := Z2.out; have h2 := Z3.out; have h3 := Z4.out; have h4 := Z5.out; have h5 := Z6.out; have h6 := Z7.out; have h7 := Z8.out; have h8 := Z9.out; have h9 := Z10.out; have h10 := Z11.out; have h11 := Z12.out; have h12 := Z13.out; have h13 := U_P0.out; have h14 := U_S.out; have h15 := U_W0.out; have h16 := U_Q0.out; have h17 := U_G0.out; omega)
  have W1_13 : Hid (CB w2.heap.size w13 W1M W1c W1r) := PrtM.cb_only W1_12.out ho (fun k hk hs => by have hx := G2R.out k hs; have hy := W1R.out k hk; have h0 := Z1.out; have h1 := Z2.out; have h2 := Z3.out; have h3 := Z4.out; have h4 := Z5.out; have h5 := Z6.out; have h6 := Z7.out; have h7 := Z8.out; have h8 := Z9.out; have h9 := Z10.out; have h10 := Z11.out; have h11 := Z12.out; have h12 := Z13.out; have h13 := U_P0.out; have h14 := U_S.out; have h15 := U_W0.out; have h16 := U_Q0.out; have h17 := U_G0.out; omega)
  have W2_13 : Hid (AB w2.heap.size w13 W2M W2c W2r) := ab_only W2_12.out ho (fun k hk hs => by have hx := G2R.out k hs; have hy := W2R.out k hk; have h0 := Z1.out; have h1 := Z2.out; have h2 := Z3.out; have h3 := Z4.out; have h4 := Z5.out; have h5 := Z6.out; have h6 := Z7.out; have h7 := Z8.out; have h8 := Z9.out; have h9 := Z10.out; have h10 := Z11.out; have h11 := Z12.out; have h12 := Z13.out; have h13 := U_P0.out; have h14 := U_S.out; have h15 := U_W0.out; have h16 := U_Q0.out; have h17 := U_G0.out; omega)
  have W0_13 : Hid (Blk w13 w3.heap.size #[.int .i64 hd0, .int .i64 vu, .slice (some ⟨W1M, 0, none⟩) W1r.length W1c] 28) := ho.blk W0_12.out (fun hs => by have hx := G2R.out _ hs; have h0 := Z1.out; have h1 := Z2.out; have h2 := Z3.out; have h3 := Z4.out; have h4 := Z5.out; have h5 := Z6.out; have h6 := Z7.out; have h7 := Z8.out; have h8 := Z9.out; have h9 := Z10.out; have h10 := Z11.out; have h11 := Z12.out; have h12 := Z13.out; have h13 := U_P0.out; have h14 := U_S.out; have h15 := U_W0.out; have h16 := U_Q0.out; have h17 := U_G0.out; omega)
  have G0_13 : Hid (Blk w13 w5.heap.size #[.int .i64 hd0, .int .i64 vu, .slice (some ⟨G1M, 0, none⟩) G1r.length G1c] 28) := ho.blk G0_12.out (fun hs => by have hx := G2R.out _ hs; have h0 := Z1.out; have h1 := Z2.out; have h2 := Z3.out; have h3 := Z4.out; have h4 := Z5.out; have h5 := Z6.out; have h6 := Z7.out; have h7 := Z8.out; have h8 := Z9.out; have h9 := Z10.out; have h10 := Z11.out; have h11 := Z12.out; have h12 := Z13.out; have h13 := U_P0.out; have h14 := U_S.out; have h15 := U_W0.out; have h16 := U_Q0.out; have h17 := U_G0.out; omega)
  have H1_13 : Hid (MC w13 G1M G1r 1 G1r.length) := H1_12.out.only ho (fun k hk hs => GD.out k hk hs)
  have H2_13 : Hid (MA w13 G2M G2r z1 G2r.length) := hm
  clear hm
  clear ho cP00 cP01 cP02 cW00 cW01 cW02 cG00 cG01 cG02
  generalize hz2 : z1 + sumA G2r = z2
  have HZ2 : Hid (z1 + sumA G2r = z2) := hz2
  clear hz2
  have hH1 : Hid (Calls Try.prog 15 #[.agg #[.int .i64 hd0, .int .i64 vu, .slice (some ⟨G1M, 0, none⟩) G1r.length G1c], .int .i64 1] w13 fun e w' => e = .returned (.int .i64 (z1 : Int)) ∧ Below w13.heap.size w13 w') := (PrtM.heldPart_any hd0 vu G1M 1 G1c G1r w13 H1_13.out GL.out.1 GS.out.2.1 (by omega) (by have := GS.out.1; omega)).mono (fun e w' h => ⟨h.1.trans (Mark.retI (by have := HZ1.out; omega)), h.2⟩)
  have hq1 : ¬ (z1 : Int) < 0 := by omega
  have hq2 : ¬ (z2 : Int) < 0 := by omega
  have cP00 : w13.cell? ⟨w.heap.size, 0, none⟩ = some (.int .i64 hd0) := (P0_13.out).cell 0
  have cP01 : w13.cell? ⟨w.heap.size, 1, none⟩ = some (.int .i64 vr0) := (P0_13.out).cell 1
  have cP02 : w13.cell? ⟨w.heap.size, 2, none⟩ = some (.slice a0 l0.length cap0) := (P0_13.out).cell 2
  have cW00 : w13.cell? ⟨w3.heap.size, 0, none⟩ = some (.int .i64 hd0) := (W0_13.out).cell 0
  have cW01 : w13.cell? ⟨w3.heap.size, 1, none⟩ = some (.int .i64 vu) := (W0_13.out).cell 1
  have cW02 : w13.cell? ⟨w3.heap.size, 2, none⟩ = some (.slice (some ⟨W1M, 0, none⟩) W1r.length W1c) := (W0_13.out).cell 2
  have cG00 : w13.cell? ⟨w5.heap.size, 0, none⟩ = some (.int .i64 hd0) := (G0_13.out).cell 0
  have cG01 : w13.cell? ⟨w5.heap.size, 1, none⟩ = some (.int .i64 vu) := (G0_13.out).cell 1
  have cG02 : w13.cell? ⟨w5.heap.size, 2, none⟩ = some (.slice (some ⟨G1M, 0, none⟩) G1r.length G1c) := (G0_13.out).cell 2
  go_wp2_with fail
  refine (hH1.out).mono ?_
  rintro e w14 ⟨rfl, hb⟩
  have B14 : Hid (Below w.heap.size w w14) := grow_on B13.out hb
  have Z14 : Hid (w13.heap.size ≤ w14.heap.size) := hb.size
  have P0_14 : Hid (Blk w14 w.heap.size #[.int .i64 hd0, .int .i64 vr0, .slice a0 l0.length cap0] 24) := P0_13.out.grow hb
  have W1_14 : Hid (CB w2.heap.size w14 W1M W1c W1r) := W1_13.out.grow hb
  have W2_14 : Hid (AB w2.heap.size w14 W2M W2c W2r) := W2_13.out.grow hb
  have W0_14 : Hid (Blk w14 w3.heap.size #[.int .i64 hd0, .int .i64 vu, .slice (some ⟨W1M, 0, none⟩) W1r.length W1c] 28) := W0_13.out.grow hb
  have G0_14 : Hid (Blk w14 w5.heap.size #[.int .i64 hd0, .int .i64 vu, .slice (some ⟨G1M, 0, none⟩) G1r.length G1c] 28) := G0_13.out.grow hb
  have H1_14 : Hid (MC w14 G1M G1r 1 G1r.length) := H1_13.out.grow hb
  have H2_14 : Hid (MA w14 G2M G2r z1 G2r.length) := H2_13.out.grow hb
  clear hb cP00 cP01 cP02 cW00 cW01 cW02 cG00 cG01 cG02 hH1
  have hH2 : Hid (Calls Try.prog 16 #[.slice (some ⟨G2M, 0, none⟩) G2r.length G2c, .int .i64 (z1 : Int)] w14 fun e w' => e = .returned (.int .i64 (z2 : Int)) ∧ Below w14.heap.size w14 w') := (heldS_any G2M z1 G2c G2r w14 H2_14.out GL.out.2 GS.out.2.2 (by have := HZ1.out; omega) (by have := GS.out.1; have := HZ1.out; omega)).mono (fun e w' h => ⟨h.1.trans (Mark.retI (by have := HZ2.out; omega)), h.2⟩)
  have cP00 : w14.cell? ⟨w.heap.size, 0, none⟩ = some (.int .i64 hd0) := (P0_14.out).cell 0
  have cP01 : w14.cell? ⟨w.heap.size, 1, none⟩ = some (.int .i64 vr0) := (P0_14.out).cell 1
  have cP02 : w14.cell? ⟨w.heap.size, 2, none⟩ = some (.slice a0 l0.length cap0) := (P0_14.out).cell 2
  have cW00 : w14.cell? ⟨w3.heap.size, 0, none⟩ = some (.int .i64 hd0) := (W0_14.out).cell 0
  have cW01 : w14.cell? ⟨w3.heap.size, 1, none⟩ = some (.int .i64 vu) := (W0_14.out).cell 1
  have cW02 : w14.cell? ⟨w3.heap.size, 2, none⟩ = some (.slice (some ⟨W1M, 0, none⟩) W1r.length W1c) := (W0_14.out).cell 2
  have cG00 : w14.cell? ⟨w5.heap.size, 0, none⟩ = some (.int .i64 hd0) := (G0_14.out).cell 0
  have cG01 : w14.cell? ⟨w5.heap.size, 1, none⟩ = some (.int .i64 vu) := (G0_14.out).cell 1
  have cG02 : w14.cell? ⟨w5.heap.size, 2, none⟩ = some (.slice (some ⟨G1M, 0, none⟩) G1r.length G1c) := (G0_14.out).cell 2
  go_wp2_with fail
  refine (hH2.out).mono ?_
  rintro e w15 ⟨rfl, hb⟩
  have B15 : Hid (Below w.heap.size w w15) := grow_on B14.out hb
  have Z15 : Hid (w14.heap.size ≤ w15.heap.size) := hb.size
  have P0_15 : Hid (Blk w15 w.heap.size #[.int .i64 hd0, .int .i64 vr0, .slice a0 l0.length cap0] 24) := P0_14.out.grow hb
  have W1_15 : Hid (CB w2.heap.size w15 W1M W1c W1r) := W1_14.out.grow hb
  have W2_15 : Hid (AB w2.heap.size w15 W2M W2c W2r) := W2_14.out.grow hb
  have W0_15 : Hid (Blk w15 w3.heap.size #[.int .i64 hd0, .int .i64 vu, .slice (some ⟨W1M, 0, none⟩) W1r.length W1c] 28) := W0_14.out.grow hb
  have G0_15 : Hid (Blk w15 w5.heap.size #[.int .i64 hd0, .int .i64 vu, .slice (some ⟨G1M, 0, none⟩) G1r.length G1c] 28) := G0_14.out.grow hb
  have H1_15 : Hid (MC w15 G1M G1r 1 G1r.length) := H1_14.out.grow hb
  have H2_15 : Hid (MA w15 G2M G2r z1 G2r.length) := H2_14.out.grow hb
  clear hb cP00 cP01 cP02 cW00 cW01 cW02 cG00 cG01 cG02 hH2 hq1
  clear hq2
  have cP00 : w15.cell? ⟨w.heap.size, 0, none⟩ = some (.int .i64 hd0) := (P0_15.out).cell 0
  have cP01 : w15.cell? ⟨w.heap.size, 1, none⟩ = some (.int .i64 vr0) := (P0_15.out).cell 1
  have cP02 : w15.cell? ⟨w.heap.size, 2, none⟩ = some (.slice a0 l0.length cap0) := (P0_15.out).cell 2
  have cW00 : w15.cell? ⟨w3.heap.size, 0, none⟩ = some (.int .i64 hd0) := (W0_15.out).cell 0
  have cW01 : w15.cell? ⟨w3.heap.size, 1, none⟩ = some (.int .i64 vu) := (W0_15.out).cell 1
  have cW02 : w15.cell? ⟨w3.heap.size, 2, none⟩ = some (.slice (some ⟨W1M, 0, none⟩) W1r.length W1c) := (W0_15.out).cell 2
  have cG00 : w15.cell? ⟨w5.heap.size, 0, none⟩ = some (.int .i64 hd0) := (G0_15.out).cell 0
  have cG01 : w15.cell? ⟨w5.heap.size, 1, none⟩ = some (.int .i64 vu) := (G0_15.out).cell 1
  have cG02 : w15.cell? ⟨w5.heap.size, 2, none⟩ = some (.slice (some ⟨G1M, 0, none⟩) G1r.length G1c) := (G0_15.out).cell 2
  go_wp2_with fail
  refine (toPart_any hd0 vr0 a0 cap0 l0 _ (R0.out.below stays_rd B15.out) K0.out.1 K0.out.2.1).mono ?_
  rintro e w16 ⟨⟨CM, Cr, rfl, hA, hP⟩, hb⟩
  have C_16 : Hid (CB w15.heap.size w16 CM l0.length Cr) := hA.down (by first | exact Nat.le_refl _ | simp)
  have CP : Hid (chs Cr = l0) := hP
  have U_C : Hid (w15.heap.size ≤ CM ∧ CM < w16.heap.size) := ⟨C_16.out.at', C_16.out.lt⟩
  clear hA hP
  have B16 : Hid (Below w.heap.size w w16) := grow_on B15.out hb
  have Z16 : Hid (w15.heap.size ≤ w16.heap.size) := hb.size
  have P0_16 : Hid (Blk w16 w.heap.size #[.int .i64 hd0, .int .i64 vr0, .slice a0 l0.length cap0] 24) := P0_15.out.grow hb
  have W1_16 : Hid (CB w2.heap.size w16 W1M W1c W1r) := W1_15.out.grow hb
  have W2_16 : Hid (AB w2.heap.size w16 W2M W2c W2r) := W2_15.out.grow hb
  have W0_16 : Hid (Blk w16 w3.heap.size #[.int .i64 hd0, .int .i64 vu, .slice (some ⟨W1M, 0, none⟩) W1r.length W1c] 28) := W0_15.out.grow hb
  have G0_16 : Hid (Blk w16 w5.heap.size #[.int .i64 hd0, .int .i64 vu, .slice (some ⟨G1M, 0, none⟩) G1r.length G1c] 28) := G0_15.out.grow hb
  have H1_16 : Hid (MC w16 G1M G1r 1 G1r.length) := H1_15.out.grow hb
  have H2_16 : Hid (MA w16 G2M G2r z1 G2r.length) := H2_15.out.grow hb
  clear hb cP00 cP01 cP02 cW00 cW01 cW02 cG00 cG01 cG02
  have cP00 : w16.cell? ⟨w.heap.size, 0, none⟩ = some (.int .i64 hd0) := (P0_16.out).cell 0
  have cP01 : w16.cell? ⟨w.heap.size, 1, none⟩ = some (.int .i64 vr0) := (P0_16.out).cell 1
  have cP02 : w16.cell? ⟨w.heap.size, 2, none⟩ = some (.slice a0 l0.length cap0) := (P0_16.out).cell 2
  have cW00 : w16.cell? ⟨w3.heap.size, 0, none⟩ = some (.int .i64 hd0) := (W0_16.out).cell 0
  have cW01 : w16.cell? ⟨w3.heap.size, 1, none⟩ = some (.int .i64 vu) := (W0_16.out).cell 1
  have cW02 : w16.cell? ⟨w3.heap.size, 2, none⟩ = some (.slice (some ⟨W1M, 0, none⟩) W1r.length W1c) := (W0_16.out).cell 2
  have cG00 : w16.cell? ⟨w5.heap.size, 0, none⟩ = some (.int .i64 hd0) := (G0_16.out).cell 0
  have cG01 : w16.cell? ⟨w5.heap.size, 1, none⟩ = some (.int .i64 vu) := (G0_16.out).cell 1
  have cG02 : w16.cell? ⟨w5.heap.size, 2, none⟩ = some (.slice (some ⟨G1M, 0, none⟩) G1r.length G1c) := (G0_16.out).cell 2
  go_wp2_with fail
  refine (PrtY.implSweep_any hd0 vr0 a1 _ _ l0 _ (rdC C_16.out CP.out) K0.out.1 N0.out K0.out.2.1).mono ?_
  rintro e w17 ⟨⟨V1M, V1c, V1r, V2M, V2c, V2r, rfl, hC, hA, hp1, hp2, hdj⟩, hb⟩
  rw [HVU.out]
  have V1_17 : Hid (CB w16.heap.size w17 V1M V1c V1r) := hC.down (by first | exact Nat.le_refl _ | simp)
  have V2_17 : Hid (AB w16.heap.size w17 V2M V2c V2r) := hA.down (by first | exact Nat.le_refl _ | simp)
  have V1P : Hid (chs V1r = sweepTo l0 a1 l0.length) := hp1
  have V2P : Hid (pals V2r = gonesTo l0 a1 l0.length) := hp2
  have V1R : Hid (∀ k, blksC V1M V1r k → w16.heap.size ≤ k ∧ k < w17.heap.size) := fun k hk => by have := rngC hC k hk; (try simp at this); omega
  have V2R : Hid (∀ k, blks V2M V2r k → w16.heap.size ≤ k ∧ k < w17.heap.size) := fun k hk => by have := rng hA k hk; (try simp at this); omega
  have VL : Hid ((∀ x ∈ V1r, x.rs.length ≤ 2000000 ∧ ∀ y ∈ x.rs, y.2.2.l.length ≤ 1048576) ∧ ∀ x ∈ V2r, x.2.2.l.length ≤ 1048576) := ⟨rowC_len hC hp1 (by have := PD.out.1; have := K0.out.2.1; omega), row_len hA⟩
  have VD : Hid (∀ k, blksC V1M V1r k → ¬ blks V2M V2r k) := hdj
  clear hdj
  clear hC hA hp1 hp2
  have B17 : Hid (Below w.heap.size w w17) := grow_on B16.out hb
  have Z17 : Hid (w16.heap.size ≤ w17.heap.size) := hb.size
  have P0_17 : Hid (Blk w17 w.heap.size #[.int .i64 hd0, .int .i64 vr0, .slice a0 l0.length cap0] 24) := P0_16.out.grow hb
  have W1_17 : Hid (CB w2.heap.size w17 W1M W1c W1r) := W1_16.out.grow hb
  have W2_17 : Hid (AB w2.heap.size w17 W2M W2c W2r) := W2_16.out.grow hb
  have W0_17 : Hid (Blk w17 w3.heap.size #[.int .i64 hd0, .int .i64 vu, .slice (some ⟨W1M, 0, none⟩) W1r.length W1c] 28) := W0_16.out.grow hb
  have G0_17 : Hid (Blk w17 w5.heap.size #[.int .i64 hd0, .int .i64 vu, .slice (some ⟨G1M, 0, none⟩) G1r.length G1c] 28) := G0_16.out.grow hb
  have H1_17 : Hid (MC w17 G1M G1r 1 G1r.length) := H1_16.out.grow hb
  have H2_17 : Hid (MA w17 G2M G2r z1 G2r.length) := H2_16.out.grow hb
  have C_17 : Hid (CB w15.heap.size w17 CM l0.length Cr) := C_16.out.grow hb
  clear hb cP00 cP01 cP02 cW00 cW01 cW02 cG00 cG01 cG02
  have cP00 : (w17.alloc (.cells #[.int .i64 hd0, .int .i64 vu, .slice (some ⟨V1M, 0, none⟩) V1r.length V1c] 28)).cell? ⟨w.heap.size, 0, none⟩ = some (.int .i64 hd0) := (P0_17.out.alloc _).cell 0
  have cP01 : (w17.alloc (.cells #[.int .i64 hd0, .int .i64 vu, .slice (some ⟨V1M, 0, none⟩) V1r.length V1c] 28)).cell? ⟨w.heap.size, 1, none⟩ = some (.int .i64 vr0) := (P0_17.out.alloc _).cell 1
  have cP02 : (w17.alloc (.cells #[.int .i64 hd0, .int .i64 vu, .slice (some ⟨V1M, 0, none⟩) V1r.length V1c] 28)).cell? ⟨w.heap.size, 2, none⟩ = some (.slice a0 l0.length cap0) := (P0_17.out.alloc _).cell 2
  have cW00 : (w17.alloc (.cells #[.int .i64 hd0, .int .i64 vu, .slice (some ⟨V1M, 0, none⟩) V1r.length V1c] 28)).cell? ⟨w3.heap.size, 0, none⟩ = some (.int .i64 hd0) := (W0_17.out.alloc _).cell 0
  have cW01 : (w17.alloc (.cells #[.int .i64 hd0, .int .i64 vu, .slice (some ⟨V1M, 0, none⟩) V1r.length V1c] 28)).cell? ⟨w3.heap.size, 1, none⟩ = some (.int .i64 vu) := (W0_17.out.alloc _).cell 1
  have cW02 : (w17.alloc (.cells #[.int .i64 hd0, .int .i64 vu, .slice (some ⟨V1M, 0, none⟩) V1r.length V1c] 28)).cell? ⟨w3.heap.size, 2, none⟩ = some (.slice (some ⟨W1M, 0, none⟩) W1r.length W1c) := (W0_17.out.alloc _).cell 2
  have cG00 : (w17.alloc (.cells #[.int .i64 hd0, .int .i64 vu, .slice (some ⟨V1M, 0, none⟩) V1r.length V1c] 28)).cell? ⟨w5.heap.size, 0, none⟩ = some (.int .i64 hd0) := (G0_17.out.alloc _).cell 0
  have cG01 : (w17.alloc (.cells #[.int .i64 hd0, .int .i64 vu, .slice (some ⟨V1M, 0, none⟩) V1r.length V1c] 28)).cell? ⟨w5.heap.size, 1, none⟩ = some (.int .i64 vu) := (G0_17.out.alloc _).cell 1
  have cG02 : (w17.alloc (.cells #[.int .i64 hd0, .int .i64 vu, .slice (some ⟨V1M, 0, none⟩) V1r.length V1c] 28)).cell? ⟨w5.heap.size, 2, none⟩ = some (.slice (some ⟨G1M, 0, none⟩) G1r.length G1c) := (G0_17.out.alloc _).cell 2
  go_wp2_with fail
  refine (eqPC_any hd0 vu _ _ _ _ _ _ _ _ V1r W1r _ _ (V1_17.out.grow (Go.Joins.below_alloc1 w17 _)) (W1_17.out.grow (Go.Joins.below_alloc1 w17 _)) V1P.out W1P.out PL.out.1 PL.out.2).mono ?_
  rintro e w18 ⟨rfl, hb⟩
  have V0_18 : Hid (Blk w18 w17.heap.size #[.int .i64 hd0, .int .i64 vu, .slice (some ⟨V1M, 0, none⟩) V1r.length V1c] 28) := (Blk.new _ _ _).grow hb
  have U_V0 : Hid (w17.heap.size ≤ w17.heap.size ∧ w17.heap.size < w18.heap.size) := ⟨Nat.le_refl _, V0_18.out.lt⟩
  replace hb := grow_on (Go.Joins.below_alloc1 w17 _) hb
  have B18 : Hid (Below w.heap.size w w18) := grow_on B17.out hb
  have Z18 : Hid (w17.heap.size ≤ w18.heap.size) := hb.size
  have P0_18 : Hid (Blk w18 w.heap.size #[.int .i64 hd0, .int .i64 vr0, .slice a0 l0.length cap0] 24) := P0_17.out.grow hb
  have W1_18 : Hid (CB w2.heap.size w18 W1M W1c W1r) := W1_17.out.grow hb
  have W2_18 : Hid (AB w2.heap.size w18 W2M W2c W2r) := W2_17.out.grow hb
  have W0_18 : Hid (Blk w18 w3.heap.size #[.int .i64 hd0, .int .i64 vu, .slice (some ⟨W1M, 0, none⟩) W1r.length W1c] 28) := W0_17.out.grow hb
  have G0_18 : Hid (Blk w18 w5.heap.size #[.int .i64 hd0, .int .i64 vu, .slice (some ⟨G1M, 0, none⟩) G1r.length G1c] 28) := G0_17.out.grow hb
  have H1_18 : Hid (MC w18 G1M G1r 1 G1r.length) := H1_17.out.grow hb
  have H2_18 : Hid (MA w18 G2M G2r z1 G2r.length) := H2_17.out.grow hb
  have V1_18 : Hid (CB w16.heap.size w18 V1M V1c V1r) := V1_17.out.grow hb
  have V2_18 : Hid (AB w16.heap.size w18 V2M V2c V2r) := V2_17.out.grow hb
  clear hb cP00 cP01 cP02 cW00 cW01 cW02 cG00 cG01 cG02
  have cP00 : w18.cell? ⟨w.heap.size, 0, none⟩ = some (.int .i64 hd0) := (P0_18.out).cell 0
  have cP01 : w18.cell? ⟨w.heap.size, 1, none⟩ = some (.int .i64 vr0) := (P0_18.out).cell 1
  have cP02 : w18.cell? ⟨w.heap.size, 2, none⟩ = some (.slice a0 l0.length cap0) := (P0_18.out).cell 2
  have cW00 : w18.cell? ⟨w3.heap.size, 0, none⟩ = some (.int .i64 hd0) := (W0_18.out).cell 0
  have cW01 : w18.cell? ⟨w3.heap.size, 1, none⟩ = some (.int .i64 vu) := (W0_18.out).cell 1
  have cW02 : w18.cell? ⟨w3.heap.size, 2, none⟩ = some (.slice (some ⟨W1M, 0, none⟩) W1r.length W1c) := (W0_18.out).cell 2
  have cG00 : w18.cell? ⟨w5.heap.size, 0, none⟩ = some (.int .i64 hd0) := (G0_18.out).cell 0
  have cG01 : w18.cell? ⟨w5.heap.size, 1, none⟩ = some (.int .i64 vu) := (G0_18.out).cell 1
  have cG02 : w18.cell? ⟨w5.heap.size, 2, none⟩ = some (.slice (some ⟨G1M, 0, none⟩) G1r.length G1c) := (G0_18.out).cell 2
  have cV00 : w18.cell? ⟨w17.heap.size, 0, none⟩ = some (.int .i64 hd0) := (V0_18.out).cell 0
  have cV01 : w18.cell? ⟨w17.heap.size, 1, none⟩ = some (.int .i64 vu) := (V0_18.out).cell 1
  have cV02 : w18.cell? ⟨w17.heap.size, 2, none⟩ = some (.slice (some ⟨V1M, 0, none⟩) V1r.length V1c) := (V0_18.out).cell 2
  go_wp2_with fail
  refine (eqA_any _ _ _ _ _ _ _ _ V2r W2r _ _ V2_18.out W2_18.out V2P.out W2P.out PG.out.1 PG.out.2).mono ?_
  rintro e w19 ⟨rfl, hb⟩
  have B19 : Hid (Below w.heap.size w w19) := grow_on B18.out hb
  have Z19 : Hid (w18.heap.size ≤ w19.heap.size) := hb.size
  have P0_19 : Hid (Blk w19 w.heap.size #[.int .i64 hd0, .int .i64 vr0, .slice a0 l0.length cap0] 24) := P0_18.out.grow hb
  have W1_19 : Hid (CB w2.heap.size w19 W1M W1c W1r) := W1_18.out.grow hb
  have W2_19 : Hid (AB w2.heap.size w19 W2M W2c W2r) := W2_18.out.grow hb
  have W0_19 : Hid (Blk w19 w3.heap.size #[.int .i64 hd0, .int .i64 vu, .slice (some ⟨W1M, 0, none⟩) W1r.length W1c] 28) := W0_18.out.grow hb
  have G0_19 : Hid (Blk w19 w5.heap.size #[.int .i64 hd0, .int .i64 vu, .slice (some ⟨G1M, 0, none⟩) G1r.length G1c] 28) := G0_18.out.grow hb
  have H1_19 : Hid (MC w19 G1M G1r 1 G1r.length) := H1_18.out.grow hb
  have H2_19 : Hid (MA w19 G2M G2r z1 G2r.length) := H2_18.out.grow hb
  have V1_19 : Hid (CB w16.heap.size w19 V1M V1c V1r) := V1_18.out.grow hb
  have V2_19 : Hid (AB w16.heap.size w19 V2M V2c V2r) := V2_18.out.grow hb
  have V0_19 : Hid (Blk w19 w17.heap.size #[.int .i64 hd0, .int .i64 vu, .slice (some ⟨V1M, 0, none⟩) V1r.length V1c] 28) := V0_18.out.grow hb
  clear hb cP00 cP01 cP02 cW00 cW01 cW02 cG00 cG01 cG02 cV00 cV01 cV02
  have hH1 : Hid (Calls Try.prog 15 #[.agg #[.int .i64 hd0, .int .i64 vu, .slice (some ⟨G1M, 0, none⟩) G1r.length G1c], .int .i64 1] w19 fun e w' => e = .returned (.int .i64 (z1 : Int)) ∧ Below w19.heap.size w19 w') := (PrtM.heldPart_any hd0 vu G1M 1 G1c G1r w19 H1_19.out GL.out.1 GS.out.2.1 (by omega) (by have := GS.out.1; omega)).mono (fun e w' h => ⟨h.1.trans (Mark.retI (by have := HZ1.out; omega)), h.2⟩)
  have hq1 : ¬ (z1 : Int) < 0 := by omega
  have hq2 : ¬ (z2 : Int) < 0 := by omega
  have cP00 : w19.cell? ⟨w.heap.size, 0, none⟩ = some (.int .i64 hd0) := (P0_19.out).cell 0
  have cP01 : w19.cell? ⟨w.heap.size, 1, none⟩ = some (.int .i64 vr0) := (P0_19.out).cell 1
  have cP02 : w19.cell? ⟨w.heap.size, 2, none⟩ = some (.slice a0 l0.length cap0) := (P0_19.out).cell 2
  have cW00 : w19.cell? ⟨w3.heap.size, 0, none⟩ = some (.int .i64 hd0) := (W0_19.out).cell 0
  have cW01 : w19.cell? ⟨w3.heap.size, 1, none⟩ = some (.int .i64 vu) := (W0_19.out).cell 1
  have cW02 : w19.cell? ⟨w3.heap.size, 2, none⟩ = some (.slice (some ⟨W1M, 0, none⟩) W1r.length W1c) := (W0_19.out).cell 2
  have cG00 : w19.cell? ⟨w5.heap.size, 0, none⟩ = some (.int .i64 hd0) := (G0_19.out).cell 0
  have cG01 : w19.cell? ⟨w5.heap.size, 1, none⟩ = some (.int .i64 vu) := (G0_19.out).cell 1
  have cG02 : w19.cell? ⟨w5.heap.size, 2, none⟩ = some (.slice (some ⟨G1M, 0, none⟩) G1r.length G1c) := (G0_19.out).cell 2
  have cV00 : w19.cell? ⟨w17.heap.size, 0, none⟩ = some (.int .i64 hd0) := (V0_19.out).cell 0
  have cV01 : w19.cell? ⟨w17.heap.size, 1, none⟩ = some (.int .i64 vu) := (V0_19.out).cell 1
  have cV02 : w19.cell? ⟨w17.heap.size, 2, none⟩ = some (.slice (some ⟨V1M, 0, none⟩) V1r.length V1c) := (V0_19.out).cell 2
  go_wp2_with fail
  refine (hH1.out).mono ?_
  rintro e w20 ⟨rfl, hb⟩
  have B20 : Hid (Below w.heap.size w w20) := grow_on B19.out hb
  have Z20 : Hid (w19.heap.size ≤ w20.heap.size) := hb.size
  have P0_20 : Hid (Blk w20 w.heap.size #[.int .i64 hd0, .int .i64 vr0, .slice a0 l0.length cap0] 24) := P0_19.out.grow hb
  have W1_20 : Hid (CB w2.heap.size w20 W1M W1c W1r) := W1_19.out.grow hb
  have W2_20 : Hid (AB w2.heap.size w20 W2M W2c W2r) := W2_19.out.grow hb
  have W0_20 : Hid (Blk w20 w3.heap.size #[.int .i64 hd0, .int .i64 vu, .slice (some ⟨W1M, 0, none⟩) W1r.length W1c] 28) := W0_19.out.grow hb
  have G0_20 : Hid (Blk w20 w5.heap.size #[.int .i64 hd0, .int .i64 vu, .slice (some ⟨G1M, 0, none⟩) G1r.length G1c] 28) := G0_19.out.grow hb
  have H1_20 : Hid (MC w20 G1M G1r 1 G1r.length) := H1_19.out.grow hb
  have H2_20 : Hid (MA w20 G2M G2r z1 G2r.length) := H2_19.out.grow hb
  have V1_20 : Hid (CB w16.heap.size w20 V1M V1c V1r) := V1_19.out.grow hb
  have V2_20 : Hid (AB w16.heap.size w20 V2M V2c V2r) := V2_19.out.grow hb
  have V0_20 : Hid (Blk w20 w17.heap.size #[.int .i64 hd0, .int .i64 vu, .slice (some ⟨V1M, 0, none⟩) V1r.length V1c] 28) := V0_19.out.grow hb
  clear hb cP00 cP01 cP02 cW00 cW01 cW02 cG00 cG01 cG02 cV00 cV01 cV02 hH1
  have hH2 : Hid (Calls Try.prog 16 #[.slice (some ⟨G2M, 0, none⟩) G2r.length G2c, .int .i64 (z1 : Int)] w20 fun e w' => e = .returned (.int .i64 (z2 : Int)) ∧ Below w20.heap.size w20 w') := (heldS_any G2M z1 G2c G2r w20 H2_20.out GL.out.2 GS.out.2.2 (by have := HZ1.out; omega) (by have := GS.out.1; have := HZ1.out; omega)).mono (fun e w' h => ⟨h.1.trans (Mark.retI (by have := HZ2.out; omega)), h.2⟩)
  have cP00 : w20.cell? ⟨w.heap.size, 0, none⟩ = some (.int .i64 hd0) := (P0_20.out).cell 0
  have cP01 : w20.cell? ⟨w.heap.size, 1, none⟩ = some (.int .i64 vr0) := (P0_20.out).cell 1
  have cP02 : w20.cell? ⟨w.heap.size, 2, none⟩ = some (.slice a0 l0.length cap0) := (P0_20.out).cell 2
  have cW00 : w20.cell? ⟨w3.heap.size, 0, none⟩ = some (.int .i64 hd0) := (W0_20.out).cell 0
  have cW01 : w20.cell? ⟨w3.heap.size, 1, none⟩ = some (.int .i64 vu) := (W0_20.out).cell 1
  have cW02 : w20.cell? ⟨w3.heap.size, 2, none⟩ = some (.slice (some ⟨W1M, 0, none⟩) W1r.length W1c) := (W0_20.out).cell 2
  have cG00 : w20.cell? ⟨w5.heap.size, 0, none⟩ = some (.int .i64 hd0) := (G0_20.out).cell 0
  have cG01 : w20.cell? ⟨w5.heap.size, 1, none⟩ = some (.int .i64 vu) := (G0_20.out).cell 1
  have cG02 : w20.cell? ⟨w5.heap.size, 2, none⟩ = some (.slice (some ⟨G1M, 0, none⟩) G1r.length G1c) := (G0_20.out).cell 2
  have cV00 : w20.cell? ⟨w17.heap.size, 0, none⟩ = some (.int .i64 hd0) := (V0_20.out).cell 0
  have cV01 : w20.cell? ⟨w17.heap.size, 1, none⟩ = some (.int .i64 vu) := (V0_20.out).cell 1
  have cV02 : w20.cell? ⟨w17.heap.size, 2, none⟩ = some (.slice (some ⟨V1M, 0, none⟩) V1r.length V1c) := (V0_20.out).cell 2
  go_wp2_with fail
  refine (hH2.out).mono ?_
  rintro e w21 ⟨rfl, hb⟩
  have B21 : Hid (Below w.heap.size w w21) := grow_on B20.out hb
  have Z21 : Hid (w20.heap.size ≤ w21.heap.size) := hb.size
  have P0_21 : Hid (Blk w21 w.heap.size #[.int .i64 hd0, .int .i64 vr0, .slice a0 l0.length cap0] 24) := P0_20.out.grow hb
  have W1_21 : Hid (CB w2.heap.size w21 W1M W1c W1r) := W1_20.out.grow hb
  have W2_21 : Hid (AB w2.heap.size w21 W2M W2c W2r) := W2_20.out.grow hb
  have W0_21 : Hid (Blk w21 w3.heap.size #[.int .i64 hd0, .int .i64 vu, .slice (some ⟨W1M, 0, none⟩) W1r.length W1c] 28) := W0_20.out.grow hb
  have G0_21 : Hid (Blk w21 w5.heap.size #[.int .i64 hd0, .int .i64 vu, .slice (some ⟨G1M, 0, none⟩) G1r.length G1c] 28) := G0_20.out.grow hb
  have H1_21 : Hid (MC w21 G1M G1r 1 G1r.length) := H1_20.out.grow hb
  have H2_21 : Hid (MA w21 G2M G2r z1 G2r.length) := H2_20.out.grow hb
  have V1_21 : Hid (CB w16.heap.size w21 V1M V1c V1r) := V1_20.out.grow hb
  have V2_21 : Hid (AB w16.heap.size w21 V2M V2c V2r) := V2_20.out.grow hb
  have V0_21 : Hid (Blk w21 w17.heap.size #[.int .i64 hd0, .int .i64 vu, .slice (some ⟨V1M, 0, none⟩) V1r.length V1c] 28) := V0_20.out.grow hb
  clear hb cP00 cP01 cP02 cW00 cW01 cW02 cG00 cG01 cG02 cV00 cV01 cV02 hH2 hq1
  have cP00 : w21.cell? ⟨w.heap.size, 0, none⟩ = some (.int .i64 hd0) := (P0_21.out).cell 0
  have cP01 : w21.cell? ⟨w.heap.size, 1, none⟩ = some (.int .i64 vr0) := (P0_21.out).cell 1
  have cP02 : w21.cell? ⟨w.heap.size, 2, none⟩ = some (.slice a0 l0.length cap0) := (P0_21.out).cell 2
  have cW00 : w21.cell? ⟨w3.heap.size, 0, none⟩ = some (.int .i64 hd0) := (W0_21.out).cell 0
  have cW01 : w21.cell? ⟨w3.heap.size, 1, none⟩ = some (.int .i64 vu) := (W0_21.out).cell 1
  have cW02 : w21.cell? ⟨w3.heap.size, 2, none⟩ = some (.slice (some ⟨W1M, 0, none⟩) W1r.length W1c) := (W0_21.out).cell 2
  have cG00 : w21.cell? ⟨w5.heap.size, 0, none⟩ = some (.int .i64 hd0) := (G0_21.out).cell 0
  have cG01 : w21.cell? ⟨w5.heap.size, 1, none⟩ = some (.int .i64 vu) := (G0_21.out).cell 1
  have cG02 : w21.cell? ⟨w5.heap.size, 2, none⟩ = some (.slice (some ⟨G1M, 0, none⟩) G1r.length G1c) := (G0_21.out).cell 2
  have cV00 : w21.cell? ⟨w17.heap.size, 0, none⟩ = some (.int .i64 hd0) := (V0_21.out).cell 0
  have cV01 : w21.cell? ⟨w17.heap.size, 1, none⟩ = some (.int .i64 vu) := (V0_21.out).cell 1
  have cV02 : w21.cell? ⟨w17.heap.size, 2, none⟩ = some (.slice (some ⟨V1M, 0, none⟩) V1r.length V1c) := (V0_21.out).cell 2
  go_wp2
  go_ret
  exact ⟨rfl, B21.out⟩
theorem own : ownKnob Try.prog.godebug = none := by kernel_rfl
theorem laidOut : laidOutB Try.prog = true := by kernel_rfl
set_option maxRecDepth 100000 in
theorem lifted (os : Os) (started : os.Started) (H : Type) (enc : TypeId × Value → H) :
    ReturnsInHanded {} Try.checked os 3 .any (Rows.fnExactSweepInSpec.pre6 enc Try.prog Try.f3 Rows.fnExactSweepInRow.domain false) (Rows.fnExactSweepInSpec.post enc Try.prog Try.f3 false true false false) := by
  refine returnsInHanded_of_change (C := Try.checked) own started (by kernel_rfl) Try.func3
    (ChangeSpec.witness6 (enc := enc) (C := Try.checked) false ⟨#[], #[.agg #[.int .i64 0, .int .i64 0, .slice none 0 0], .int .i64 0], []⟩ 8 (by kernel_rfl) (by kernel_rfl) (by kernel_rfl) (by kernel_rfl)) ?_
  intro W base args ds gs before hval0 hW hcnd _
  have hval : ∀ (j : Nat) t v, Try.f3.params[j]? = some t → args[j]? = some v → Value.okWide Try.prog W .any base t v := hval0
  have hW' := hW
  obtain ⟨p, q, hA0, hV, rfl, hfz, hnd⟩ := hW
  have hA : DataW.TrodAll enc Try.prog W 0 (fun _ => true) true Try.f3.params.toList args.toList ds p := hA0
  rw [Try.params3] at hA hval
  obtain ⟨v0, vs0, d0, ds0, p0, q0, hargs, rfl, rfl, h0, r0⟩ := trodAll_cons hA
  obtain ⟨v1, vs1, d1, ds1, p1, q1, rfl, rfl, rfl, h1, r1⟩ := trodAll_cons r0
  obtain ⟨rfl, rfl, rfl⟩ := trodAll_nil r1
  obtain rfl : args = #[v0, v1] := by cases args; simp_all
  obtain ⟨rfl, rfl⟩ := trodVars_none hV
  have k0 := h0
  have lt0 : ∀ x ∈ p0, x.block < W.heap.size := by obtain ⟨m, hm⟩ := k0; exact DataW.trod_lt m _ _ _ hm
  obtain ⟨hd0, vr0, a0, cap0, l0, rfl, w0, m0, z0, y0, x0⟩ := Go.Proofs.Ytcopckbpflmmeab.Prt.open_part (hval 0 24 v0 rfl rfl) h0
  obtain ⟨a1, rfl, rfl, rfl, w1⟩ := open_int Try.underlying3 (hval 1 3 v1 rfl rfl) h1
  clear hA0 hval0
  refine (walk hd0 vr0 a0 cap0 l0 a1 W w0 m0 z0 y0 x0 w1).mono fun e W' ⟨he, bel⟩ => ?_
  subst he
  exact ⟨_, rfl, _, _, _, [], _, [], hW', trodAll_mk1 (shut_bool Try.underlying4 _), (trodAll_cons_mk (Below.trod laidOut (by kernel_rfl) (of_decide_eq_true (by kernel_rfl)) k0 bel lt0) (trodAll_cons_mk (shut_int Try.underlying3 w1) trodAll_mk0)), rfl, bel.frame _, fun h => by cases h⟩

theorem over : Rows.fnExactSweepInRow.holds Try.pinned (OpenSpec.ofChange Rows.fnExactSweepInSpec) :=
  OpenClaim.holds_of_wide 3 Try.f3 rfl rfl rfl rfl rfl rfl rfl ⟨rfl, rfl, rfl, rfl, rfl⟩ rfl rfl rfl rfl rfl (by kernel_rfl) Try.func3 (by kernel_rfl)
    (of_decide_eq_true (by kernel_rfl)) (by unfold Func.isWrapper; first | (rw [if_pos (by decide +kernel)]; kernel_rfl) | (rw [if_neg (by decide +kernel)]; exact ⟨rfl, rfl⟩))
    (fun os started H enc _ => lifted os started H enc)

end Go.Proofs.Ytcopckbpflmmeab.FnExactSweepIn
namespace Go.Proofs.Ytcopckbpflmmeab
theorem fnExactSweepIn_holds : Rows.FnExactSweepInSaid := FnExactSweepIn.over
#print axioms fnExactSweepIn_holds
end Go.Proofs.Ytcopckbpflmmeab
