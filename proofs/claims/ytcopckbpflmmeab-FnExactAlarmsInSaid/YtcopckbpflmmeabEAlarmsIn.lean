/-
  PROVED: at every part impl.AlarmsIn answers as spec.AlarmsIn, leaves the part as it was, keeps nothing of it, and its answer lies in memory of its own, so the law laws.FnExactAlarmsIn returns true, whatever its argument. No condition.
-/
import Derived.Test.YtcopckbpflmmeabRows
import Derived.WalkKit
import Derived.ProofKit
import Derived.OpenShut
import Derived.ShutString
import Derived.ChangeOld
import Derived.Below
import Derived.WalkLawsBesides
import Derived.WalkSpells
import Derived.Test.YtcopckbpflmmeabPrtA
import Derived.Test.YtcopckbpflmmeabPrtM
import Derived.Deep.RegionHeld3
namespace Go.Proofs.Ytcopckbpflmmeab.FnExactAlarmsIn
open Go.ChangeShapes Go.WideShapes Go.ChangeAt Go.RowKit
open Go.ChangeMaps (open_string shut_string)
set_option linter.unusedVariables false

open Go.Proofs.Ytcopckbpflmmeab.Labs Go.Proofs.Ytcopckbpflmmeab.LabS Go.Proofs.Ytcopckbpflmmeab.Over Go.Proofs.Ytcopckbpflmmeab.Blk Go.Proofs.Ytcopckbpflmmeab.Alms Go.Proofs.Ytcopckbpflmmeab.Rws Go.Proofs.Ytcopckbpflmmeab.ChnC Go.Proofs.Ytcopckbpflmmeab.ChnK Go.Proofs.Ytcopckbpflmmeab.Chs Go.Proofs.Ytcopckbpflmmeab.Prt
open Go.Proofs.Ytcopckbpflmmeab.Alm (AlIn)
open Go.Proofs.Ytcopckbpflmmeab.LabT (held_reads)
open Go.Proofs.Ytcopckbpflmmeab.PrtM (MC blksC blksC_low blksC_high sumM sumM_chs)
theorem len_of {rs : List ARow} {P : List PAl} (h : pals rs = P) : rs.length = P.length := by rw [← pals_len, h]
theorem lenc_of {cs : List CRow} {C : List PCh} (h : chs cs = C) : cs.length = C.length := by rw [← chs_len, h]
theorem eqA_any (M M' c c' lo lo' d d' : Nat) (rs rs' : List ARow) (P : List PAl) (w : World) (h : AB lo w M d rs) (h' : AB lo' w M' d' rs') (hp : pals rs = P) (hp' : pals rs' = P) (hl : P.length ≤ maxLen) (hz : FitsP P) :
    Calls Try.prog 12 #[.slice (some ⟨M, 0, none⟩) rs.length c, .slice (some ⟨M', 0, none⟩) rs'.length c'] w fun e w' => e = .returned (.bool true) ∧ Below w.heap.size w w' := by
  have h1 := h.rd
  have h2 := h'.rd
  rw [hp] at h1
  rw [hp'] at h2
  rw [len_of hp, len_of hp']
  exact Alms.eq_any _ _ c c' P w h1.rd h2.rd hl hz
theorem rng {lo : Nat} {w : World} {M c : Nat} {rs : List ARow} (h : AB lo w M c rs) : ∀ k, blks M rs k → lo ≤ k ∧ k < w.heap.size := fun k hk => ⟨blks_low h k hk, blks_high h k hk⟩
theorem rngC {lo : Nat} {w : World} {M c : Nat} {cs : List CRow} (h : CB lo w M c cs) : ∀ k, blksC M cs k → lo ≤ k ∧ k < w.heap.size := fun k hk => ⟨blksC_low h k hk, blksC_high h k hk⟩
theorem row_len {lo : Nat} {w : World} {M c : Nat} {rs : List ARow} (h : AB lo w M c rs) : ∀ x ∈ rs, x.2.2.l.length ≤ 1048576 := fun x hx => (h.rows x hx).2.1
theorem rowC_len {lo : Nat} {w : World} {M c : Nat} {cs : List CRow} {C : List PCh} (h : CB lo w M c cs) (hp : chs cs = C) (hs : sumC C ≤ 2000000) : ∀ x ∈ cs, x.rs.length ≤ 2000000 ∧ ∀ y ∈ x.rs, y.2.2.l.length ≤ 1048576 := fun x hx => by
  refine ⟨?_, row_len (h.rows.rows x hx)⟩
  have hm : x.ch ∈ C := by rw [← hp]; exact List.mem_map.2 ⟨x, hx, rfl⟩
  have h1 := sumC_mem hm
  have h2 := pals_len x.rs
  have h3 : x.ch.P = pals x.rs := rfl
  rw [h3] at h1
  omega
theorem marksC {cs : List CRow} {C : List PCh} (hp : chs cs = C) (hl : C.length ≤ 1100000) (hs : sumC C ≤ 2200000) : 1 + sumM cs ≤ 8000000 := by
  have h1 := sumM_chs cs
  rw [hp, lenc_of hp] at h1
  omega
theorem rnC {lo : Nat} {w : World} {M c : Nat} {cs : List CRow} {C : List PCh} (h : CB lo w M c cs) (hp : chs cs = C) : RdG RdN w (some ⟨M, 0, none⟩) C := by have := h.rn; rwa [hp] at this
theorem rdC {lo : Nat} {w : World} {M c : Nat} {cs : List CRow} {C : List PCh} (h : CB lo w M c cs) (hp : chs cs = C) : RdG RdA w (some ⟨M, 0, none⟩) C := (rnC h hp).rd
set_option maxRecDepth 100000 in
set_option maxHeartbeats 4000000 in
theorem walk (hd0 vr0 : Int) (a0 : Option Addr) (cap0 : Nat) (l0 : List PCh) (w : World) (r0 : RdG RdA w a0 l0) (m0 : l0.length ≤ maxLen) (z0 : FitsC l0) (y0 : I64 hd0) (x0 : I64 vr0) :
    Calls Try.prog 4 #[.agg #[.int .i64 hd0, .int .i64 vr0, .slice a0 l0.length cap0]] w fun e w' => e = .returned (.bool true) ∧ Below w.heap.size w w' := by
  have R0 : Hid (RdG RdA w a0 l0) := r0
  have M0 : Hid (l0.length ≤ maxLen) := m0
  have F0 : Hid (FitsC l0) := z0
  have I0 : Hid (I64 hd0 ∧ I64 vr0) := ⟨y0, x0⟩
  clear r0 m0 z0 y0 x0
  have B0 : Hid (Below w.heap.size w w) := Below.refl _ _
  go_enter Try.func4, Try.ntmps4
  go_wp2_with fail
  refine (szPart_any hd0 vr0 a0 cap0 l0 1048576 _ (R0.out.below stays_rd (grow_on B0.out (Go.Joins.below_alloc1 w _))) M0.out F0.out (by omega) (by omega)).mono ?_
  rintro e w1 ⟨⟨k0, rfl, p0, hn⟩, hb⟩
  have P0_1 : Hid (Blk w1 w.heap.size #[.int .i64 hd0, .int .i64 vr0, .slice a0 l0.length cap0] 24) := (Blk.new _ _ _).grow hb
  have U_P0 : Hid (w.heap.size ≤ w.heap.size ∧ w.heap.size < w1.heap.size) := ⟨by omega, P0_1.out.lt⟩
  replace hb := grow_on (Go.Joins.below_alloc1 w _) hb
  have B1 : Hid (Below w.heap.size w w1) := grow_on B0.out hb
  have Z1 : Hid (w.heap.size ≤ w1.heap.size) := hb.size
  clear hb
  by_cases g0 : k0 < 0
  · clear hn
    go_wp2
    go_ret
    exact ⟨rfl, B1.out⟩
  have K0 : Hid (l0.length ≤ 1048576 ∧ sumC l0 ≤ 1048576 ∧ l0.length + sumC l0 ≤ 1048576) := by have := hn (by omega); exact ⟨by omega, by omega, by omega⟩
  have N0 : Hid (PrtA.SmallA l0) := fun q hq => by have := sumC_mem hq; have := K0.out.2.1; exact ⟨by omega, lenM_of (by omega)⟩
  clear hn
  have PL : Hid ((PrtA.allC l0).length ≤ maxLen ∧ FitsP (PrtA.allC l0)) := ⟨by have h1 := PrtA.allC_sum l0; have h2 := K0.out.2.1; exact ChnK.len_max (by omega), fits_of fun x hx => by obtain ⟨c, hc, h⟩ := PrtA.allC_mem hx; exact fits_mem (F0.out c hc).fits h⟩
  have cP00 : w1.cell? ⟨w.heap.size, 0, none⟩ = some (.int .i64 hd0) := (P0_1.out).cell 0
  have cP01 : w1.cell? ⟨w.heap.size, 1, none⟩ = some (.int .i64 vr0) := (P0_1.out).cell 1
  have cP02 : w1.cell? ⟨w.heap.size, 2, none⟩ = some (.slice a0 l0.length cap0) := (P0_1.out).cell 2
  go_wp2_with fail
  refine (toPart_any hd0 vr0 a0 cap0 l0 _ (R0.out.below stays_rd B1.out) K0.out.1 K0.out.2.1).mono ?_
  rintro e w2 ⟨⟨SM, Sr, rfl, hA, hP⟩, hb⟩
  have S_2 : Hid (CB w1.heap.size w2 SM l0.length Sr) := hA.down (by first | exact Nat.le_refl _ | simp)
  have SP : Hid (chs Sr = l0) := hP
  have U_S : Hid (w1.heap.size ≤ SM ∧ SM < w2.heap.size) := ⟨S_2.out.at', S_2.out.lt⟩
  clear hA hP
  have B2 : Hid (Below w.heap.size w w2) := grow_on B1.out hb
  have Z2 : Hid (w1.heap.size ≤ w2.heap.size) := hb.size
  have P0_2 : Hid (Blk w2 w.heap.size #[.int .i64 hd0, .int .i64 vr0, .slice a0 l0.length cap0] 24) := P0_1.out.grow hb
  clear hb cP00 cP01 cP02
  have cP00 : w2.cell? ⟨w.heap.size, 0, none⟩ = some (.int .i64 hd0) := (P0_2.out).cell 0
  have cP01 : w2.cell? ⟨w.heap.size, 1, none⟩ = some (.int .i64 vr0) := (P0_2.out).cell 1
  have cP02 : w2.cell? ⟨w.heap.size, 2, none⟩ = some (.slice a0 l0.length cap0) := (P0_2.out).cell 2
  go_wp2_with fail
  refine (PrtA.specAll_any hd0 vr0 _ _ l0 _ (rnC S_2.out SP.out) K0.out.1 N0.out K0.out.2.1).mono ?_
  rintro e w3 ⟨⟨WM, Wc, Wr, rfl, hA, hP⟩, hb⟩
  have W_3 : Hid (AB w2.heap.size w3 WM Wc Wr) := hA.down (by first | exact Nat.le_refl _ | simp)
  have WP : Hid (pals Wr = PrtA.allC l0) := hP
  have WR : Hid (∀ k, blks WM Wr k → w2.heap.size ≤ k ∧ k < w3.heap.size) := fun k hk => rng W_3.out k hk
  have WL : Hid (∀ x ∈ Wr, x.2.2.l.length ≤ 1048576) := row_len hA
  clear hA hP
  have B3 : Hid (Below w.heap.size w w3) := grow_on B2.out hb
  have Z3 : Hid (w2.heap.size ≤ w3.heap.size) := hb.size
  have P0_3 : Hid (Blk w3 w.heap.size #[.int .i64 hd0, .int .i64 vr0, .slice a0 l0.length cap0] 24) := P0_2.out.grow hb
  have S_3 : Hid (CB w1.heap.size w3 SM l0.length Sr) := S_2.out.grow hb
  clear hb cP00 cP01 cP02
  have cP00 : w3.cell? ⟨w.heap.size, 0, none⟩ = some (.int .i64 hd0) := (P0_3.out).cell 0
  have cP01 : w3.cell? ⟨w.heap.size, 1, none⟩ = some (.int .i64 vr0) := (P0_3.out).cell 1
  have cP02 : w3.cell? ⟨w.heap.size, 2, none⟩ = some (.slice a0 l0.length cap0) := (P0_3.out).cell 2
  go_wp2_with fail
  refine (toPart_any hd0 vr0 a0 cap0 l0 _ (R0.out.below stays_rd B3.out) K0.out.1 K0.out.2.1).mono ?_
  rintro e w4 ⟨⟨XM, Xr, rfl, hA, hP⟩, hb⟩
  have X_4 : Hid (CB w3.heap.size w4 XM l0.length Xr) := hA.down (by first | exact Nat.le_refl _ | simp)
  have XP : Hid (chs Xr = l0) := hP
  have U_X : Hid (w3.heap.size ≤ XM ∧ XM < w4.heap.size) := ⟨X_4.out.at', X_4.out.lt⟩
  clear hA hP
  have B4 : Hid (Below w.heap.size w w4) := grow_on B3.out hb
  have Z4 : Hid (w3.heap.size ≤ w4.heap.size) := hb.size
  have P0_4 : Hid (Blk w4 w.heap.size #[.int .i64 hd0, .int .i64 vr0, .slice a0 l0.length cap0] 24) := P0_3.out.grow hb
  have W_4 : Hid (AB w2.heap.size w4 WM Wc Wr) := W_3.out.grow hb
  clear hb cP00 cP01 cP02
  have XR : Hid (∀ k, blksC XM Xr k → w3.heap.size ≤ k ∧ k < w4.heap.size) := rngC X_4.out
  have cP00 : (w4.alloc (.cells #[.int .i64 hd0, .int .i64 vr0, .slice (some ⟨XM, 0, none⟩) l0.length l0.length] 28)).cell? ⟨w.heap.size, 0, none⟩ = some (.int .i64 hd0) := (P0_4.out.alloc _).cell 0
  have cP01 : (w4.alloc (.cells #[.int .i64 hd0, .int .i64 vr0, .slice (some ⟨XM, 0, none⟩) l0.length l0.length] 28)).cell? ⟨w.heap.size, 1, none⟩ = some (.int .i64 vr0) := (P0_4.out.alloc _).cell 1
  have cP02 : (w4.alloc (.cells #[.int .i64 hd0, .int .i64 vr0, .slice (some ⟨XM, 0, none⟩) l0.length l0.length] 28)).cell? ⟨w.heap.size, 2, none⟩ = some (.slice a0 l0.length cap0) := (P0_4.out.alloc _).cell 2
  go_wp2_with fail
  refine (PrtA.implAll_any hd0 vr0 _ _ l0 _ ((rdC X_4.out XP.out).below stays_rd (Go.Joins.below_alloc1 w4 _)) K0.out.1 N0.out K0.out.2.1).mono ?_
  rintro e w5 ⟨⟨GM, Gc, Gr, rfl, hA, hP⟩, hb⟩
  have G_5 : Hid (AB w4.heap.size w5 GM Gc Gr) := hA.down (by first | exact Nat.le_refl _ | simp)
  have GP : Hid (pals Gr = PrtA.allC l0) := hP
  have GR : Hid (∀ k, blks GM Gr k → w4.heap.size ≤ k ∧ k < w5.heap.size) := fun k hk => rng G_5.out k hk
  have GL : Hid (∀ x ∈ Gr, x.2.2.l.length ≤ 1048576) := row_len hA
  have GQ : Hid (∀ k, blks GM Gr k → w4.heap.size < k) := fun k hk => by have := rng hA k hk; simp at this; omega
  clear hA hP
  have Q0_5 : Hid (Blk w5 w4.heap.size #[.int .i64 hd0, .int .i64 vr0, .slice (some ⟨XM, 0, none⟩) l0.length l0.length] 28) := (Blk.new _ _ _).grow hb
  have U_Q0 : Hid (w4.heap.size ≤ w4.heap.size ∧ w4.heap.size < w5.heap.size) := ⟨Nat.le_refl _, Q0_5.out.lt⟩
  replace hb := grow_on (Go.Joins.below_alloc1 w4 _) hb
  have B5 : Hid (Below w.heap.size w w5) := grow_on B4.out hb
  have Z5 : Hid (w4.heap.size ≤ w5.heap.size) := hb.size
  have P0_5 : Hid (Blk w5 w.heap.size #[.int .i64 hd0, .int .i64 vr0, .slice a0 l0.length cap0] 24) := P0_4.out.grow hb
  have W_5 : Hid (AB w2.heap.size w5 WM Wc Wr) := W_4.out.grow hb
  have X_5 : Hid (CB w3.heap.size w5 XM l0.length Xr) := X_4.out.grow hb
  clear hb cP00 cP01 cP02
  have cP00 : w5.cell? ⟨w.heap.size, 0, none⟩ = some (.int .i64 hd0) := (P0_5.out).cell 0
  have cP01 : w5.cell? ⟨w.heap.size, 1, none⟩ = some (.int .i64 vr0) := (P0_5.out).cell 1
  have cP02 : w5.cell? ⟨w.heap.size, 2, none⟩ = some (.slice a0 l0.length cap0) := (P0_5.out).cell 2
  have cQ00 : w5.cell? ⟨w4.heap.size, 0, none⟩ = some (.int .i64 hd0) := (Q0_5.out).cell 0
  have cQ01 : w5.cell? ⟨w4.heap.size, 1, none⟩ = some (.int .i64 vr0) := (Q0_5.out).cell 1
  have cQ02 : w5.cell? ⟨w4.heap.size, 2, none⟩ = some (.slice (some ⟨XM, 0, none⟩) l0.length l0.length) := (Q0_5.out).cell 2
  go_wp2_with fail
  refine (eqA_any _ _ _ _ _ _ _ _ Gr Wr _ _ G_5.out W_5.out GP.out WP.out PL.out.1 PL.out.2).mono ?_
  rintro e w6 ⟨rfl, hb⟩
  have B6 : Hid (Below w.heap.size w w6) := grow_on B5.out hb
  have Z6 : Hid (w5.heap.size ≤ w6.heap.size) := hb.size
  have P0_6 : Hid (Blk w6 w.heap.size #[.int .i64 hd0, .int .i64 vr0, .slice a0 l0.length cap0] 24) := P0_5.out.grow hb
  have W_6 : Hid (AB w2.heap.size w6 WM Wc Wr) := W_5.out.grow hb
  have X_6 : Hid (CB w3.heap.size w6 XM l0.length Xr) := X_5.out.grow hb
  have Q0_6 : Hid (Blk w6 w4.heap.size #[.int .i64 hd0, .int .i64 vr0, .slice (some ⟨XM, 0, none⟩) l0.length l0.length] 28) := Q0_5.out.grow hb
  have G_6 : Hid (AB w4.heap.size w6 GM Gc Gr) := G_5.out.grow hb
  clear hb cP00 cP01 cP02 cQ00 cQ01 cQ02
  have cP00 : w6.cell? ⟨w.heap.size, 0, none⟩ = some (.int .i64 hd0) := (P0_6.out).cell 0
  have cP01 : w6.cell? ⟨w.heap.size, 1, none⟩ = some (.int .i64 vr0) := (P0_6.out).cell 1
  have cP02 : w6.cell? ⟨w.heap.size, 2, none⟩ = some (.slice a0 l0.length cap0) := (P0_6.out).cell 2
  have cQ00 : w6.cell? ⟨w4.heap.size, 0, none⟩ = some (.int .i64 hd0) := (Q0_6.out).cell 0
  have cQ01 : w6.cell? ⟨w4.heap.size, 1, none⟩ = some (.int .i64 vr0) := (Q0_6.out).cell 1
  have cQ02 : w6.cell? ⟨w4.heap.size, 2, none⟩ = some (.slice (some ⟨XM, 0, none⟩) l0.length l0.length) := (Q0_6.out).cell 2
  go_wp2
  have kz : Below w6.heap.size w6 w6.drew := (Below.refl _ _).drew
  have kP0 := P0_6.out.lt
  have kQ0 := Q0_6.out.lt
  have HS : Hid (∀ w', Below w6.heap.size w6 w' → Below w6.heap.size w6 w' ∧ w'.cell? ⟨w.heap.size, 0, none⟩ = some (.int .i64 hd0) ∧ w'.cell? ⟨w.heap.size, 1, none⟩ = some (.int .i64 vr0) ∧ w'.cell? ⟨w.heap.size, 2, none⟩ = some (.slice a0 l0.length cap0) ∧ w'.cell? ⟨w4.heap.size, 0, none⟩ = some (.int .i64 hd0) ∧ w'.cell? ⟨w4.heap.size, 1, none⟩ = some (.int .i64 vr0) ∧ w'.cell? ⟨w4.heap.size, 2, none⟩ = some (.slice (some ⟨XM, 0, none⟩) l0.length l0.length)) := fun w' h => ⟨h, (h.cell kP0).trans cP00, (h.cell kP0).trans cP01, (h.cell kP0).trans cP02, (h.cell kQ0).trans cQ00, (h.cell kQ0).trans cQ01, (h.cell kQ0).trans cQ02⟩
  go_region_held3 (fun w' => Below w6.heap.size w6 w' ∧ w'.cell? ⟨w.heap.size, 0, none⟩ = some (.int .i64 hd0) ∧ w'.cell? ⟨w.heap.size, 1, none⟩ = some (.int .i64 vr0) ∧ w'.cell? ⟨w.heap.size, 2, none⟩ = some (.slice a0 l0.length cap0) ∧ w'.cell? ⟨w4.heap.size, 0, none⟩ = some (.int .i64 hd0) ∧ w'.cell? ⟨w4.heap.size, 1, none⟩ = some (.int .i64 vr0) ∧ w'.cell? ⟨w4.heap.size, 2, none⟩ = some (.slice (some ⟨XM, 0, none⟩) l0.length l0.length)) (first | with_reducible exact HS.out _ kz | with_reducible exact HS.out _ (grow_on kz hy0) | with_reducible exact HS.out _ (grow_on (grow_on kz hy0) hy1) | (go_keep; done)) (first | (go_at_call 9; with_reducible refine (toPart_any hd0 vr0 a0 cap0 l0 _ (R0.out.below stays_rd (grow_on B6.out kz)) K0.out.1 K0.out.2.1).mono ?_; rintro e wy ⟨⟨EM, Er, rfl, hA, hP⟩, hy0⟩) | (go_at_call 11; refine (eqPart_any hd0 vr0 _ _ _ _ l0 _ ((rdC X_6.out XP.out).below stays_rd (grow_on kz hy0)) (rdC hA hP) M0.out F0.out).mono ?_; rintro e w7 ⟨rfl, hy1⟩))
  have hb := (grow_on (grow_on kz hy0) hy1)
  have B7 : Hid (Below w.heap.size w w7) := grow_on B6.out hb
  have Z7 : Hid (w6.heap.size ≤ w7.heap.size) := hb.size
  have P0_7 : Hid (Blk w7 w.heap.size #[.int .i64 hd0, .int .i64 vr0, .slice a0 l0.length cap0] 24) := P0_6.out.grow hb
  have W_7 : Hid (AB w2.heap.size w7 WM Wc Wr) := W_6.out.grow hb
  have X_7 : Hid (CB w3.heap.size w7 XM l0.length Xr) := X_6.out.grow hb
  have Q0_7 : Hid (Blk w7 w4.heap.size #[.int .i64 hd0, .int .i64 vr0, .slice (some ⟨XM, 0, none⟩) l0.length l0.length] 28) := Q0_6.out.grow hb
  have G_7 : Hid (AB w4.heap.size w7 GM Gc Gr) := G_6.out.grow hb
  clear hb kz HS hy0 hy1 kP0 kQ0 cP00 cP01 cP02 cQ00 cQ01 cQ02 hA hP
  have XL : Hid (Xr.length = l0.length) := lenc_of XP.out
  have XS : Hid (1 + sumM Xr ≤ 9000000) := by have := marksC XP.out (by have := K0.out; omega) (by have := K0.out; omega); show _ ≤ _; omega
  have hXM : Hid (Calls Try.prog 13 #[.agg #[.int .i64 hd0, .int .i64 vr0, .slice (some ⟨XM, 0, none⟩) l0.length l0.length], .int .i64 1] w7 fun e w' => e = .returned (.int .i64 ((1 + sumM Xr : Nat) : Int)) ∧ Only (blksC XM Xr) w7 w') := by
    have h := (PrtM.markPart_any hd0 vr0 XM l0.length 1 _ l0.length Xr w7 X_7.out (by rw [XL.out]; have := K0.out.1; omega) (fun x hx => (rowC_len X_7.out XP.out (by have := K0.out; omega) x hx).1) (by omega) XS.out).mono (fun e w' h => (⟨h.1, h.2.2⟩ : e = .returned (.int .i64 ((1 + sumM Xr : Nat) : Int)) ∧ Only (blksC XM Xr) w7 w'))
    rw [XL.out] at h
    exact h
  have cP00 : w7.cell? ⟨w.heap.size, 0, none⟩ = some (.int .i64 hd0) := (P0_7.out).cell 0
  have cP01 : w7.cell? ⟨w.heap.size, 1, none⟩ = some (.int .i64 vr0) := (P0_7.out).cell 1
  have cP02 : w7.cell? ⟨w.heap.size, 2, none⟩ = some (.slice a0 l0.length cap0) := (P0_7.out).cell 2
  have cQ00 : w7.cell? ⟨w4.heap.size, 0, none⟩ = some (.int .i64 hd0) := (Q0_7.out).cell 0
  have cQ01 : w7.cell? ⟨w4.heap.size, 1, none⟩ = some (.int .i64 vr0) := (Q0_7.out).cell 1
  have cQ02 : w7.cell? ⟨w4.heap.size, 2, none⟩ = some (.slice (some ⟨XM, 0, none⟩) l0.length l0.length) := (Q0_7.out).cell 2
  go_wp2_with fail
  refine (hXM.out).mono ?_
  rintro e w8 ⟨rfl, ho⟩
  have B8 : Hid (Below w.heap.size w w8) := B7.out.trans (ho.low (fun k hk => by have hx := XR.out k hk; have hw := B3.out.size; omega) B7.out.size)
  have Z8 : Hid (w7.heap.size ≤ w8.heap.size) := ho.size
  have P0_8 : Hid (Blk w8 w.heap.size #[.int .i64 hd0, .int .i64 vr0, .slice a0 l0.length cap0] 24) := ho.blk P0_7.out (fun hs => by have hx := XR.out _ hs; have h0 := Z1.out; have h1 := Z2.out; have h2 := Z3.out; have h3 := Z4.out; have h4 := Z5.out; have h5 := Z6.out; have h6 := Z7.out; have h7 := Z8.out; have h8 := U_P0.out; have h9 := U_S.out; have h10 := U_X.out; have h11 := U_Q0.out; omega)
  have W_8 : Hid (AB w2.heap.size w8 WM Wc Wr) := ab_only W_7.out ho (fun k hk hs => by have hx := XR.out k hs; have hy := WR.out k hk; have h0 := Z1.out; have h1 := Z2.out; have h2 := Z3.out; have h3 := Z4.out; have h4 := Z5.out; have h5 := Z6.out; have h6 := Z7.out; have h7 := Z8.out; have h8 := U_P0.out; have h9 := U_S.out; have h10 := U_X.out; have h11 := U_Q0.out; omega)
  have G_8 : Hid (AB w4.heap.size w8 GM Gc Gr) := ab_only G_7.out ho (fun k hk hs => by have hx := XR.out k hs; have hy := GR.out k hk; have h0 := Z1.out; have h1 := Z2.out; have h2 := Z3.out; have h3 := Z4.out; have h4 := Z5.out; have h5 := Z6.out; have h6 := Z7.out; have h7 := Z8.out; have h8 := U_P0.out; have h9 := U_S.out; have h10 := U_X.out; have h11 := U_Q0.out; omega)
  clear ho cP00 cP01 cP02 cQ00 cQ01 cQ02
  have hq : ¬ ((1 + sumM Xr : Nat) : Int) < 0 := by omega
  generalize 1 + sumM Xr = m1 at hq ⊢
  have cP00 : w8.cell? ⟨w.heap.size, 0, none⟩ = some (.int .i64 hd0) := (P0_8.out).cell 0
  have cP01 : w8.cell? ⟨w.heap.size, 1, none⟩ = some (.int .i64 vr0) := (P0_8.out).cell 1
  have cP02 : w8.cell? ⟨w.heap.size, 2, none⟩ = some (.slice a0 l0.length cap0) := (P0_8.out).cell 2
  go_wp2_with fail
  refine (eqA_any _ _ _ _ _ _ _ _ Gr Wr _ _ G_8.out W_8.out GP.out WP.out PL.out.1 PL.out.2).mono ?_
  rintro e w9 ⟨rfl, hb⟩
  have B9 : Hid (Below w.heap.size w w9) := grow_on B8.out hb
  have Z9 : Hid (w8.heap.size ≤ w9.heap.size) := hb.size
  have P0_9 : Hid (Blk w9 w.heap.size #[.int .i64 hd0, .int .i64 vr0, .slice a0 l0.length cap0] 24) := P0_8.out.grow hb
  have W_9 : Hid (AB w2.heap.size w9 WM Wc Wr) := W_8.out.grow hb
  have G_9 : Hid (AB w4.heap.size w9 GM Gc Gr) := G_8.out.grow hb
  clear hb cP00 cP01 cP02
  clear hq
  have GS : Hid (1 + sumA Gr ≤ 9000000 ∧ Gr.length ≤ 2000000) := by
    have h1 := sumA_pals Gr
    rw [GP.out, len_of GP.out] at h1
    have h2 := PrtA.allC_sum l0
    have h3 := K0.out.2.1
    have h4 := len_of GP.out
    exact ⟨by omega, by omega⟩
  have cP00 : w9.cell? ⟨w.heap.size, 0, none⟩ = some (.int .i64 hd0) := (P0_9.out).cell 0
  have cP01 : w9.cell? ⟨w.heap.size, 1, none⟩ = some (.int .i64 vr0) := (P0_9.out).cell 1
  have cP02 : w9.cell? ⟨w.heap.size, 2, none⟩ = some (.slice a0 l0.length cap0) := (P0_9.out).cell 2
  go_wp2_with fail
  refine (markS_any GM Gc 1 _ Gc Gr w9 G_9.out GS.out.2 (by omega) GS.out.1).mono ?_
  rintro e w10 ⟨rfl, hm, ho⟩
  have B10 : Hid (Below w.heap.size w w10) := B9.out.trans (ho.low (fun k hk => by have hx := GR.out k hk; have hw := B4.out.size; have h0 := Z1.out; have h1 := Z2.out; have h2 := Z3.out; have h3 := Z4.out; have h4 := Z5.out; have h5 := Z6.out; have h6 := Z7.out; have h7 := Z8.out; have h8 := Z9.out; have h9 := U_P0.out; have h10 := U_S.out; have h11 := U_X.out; have h12 := U_Q0.out; omega) B9.out.size)
  have Z10 : Hid (w9.heap.size ≤ w10.heap.size) := ho.size
  have P0_10 : Hid (Blk w10 w.heap.size #[.int .i64 hd0, .int .i64 vr0, .slice a0 l0.length cap0] 24) := ho.blk P0_9.out (fun hs => by have hx := GR.out _ hs; have hq := GQ.out _ hs; have h0 := Z1.out; have h1 := Z2.out; have h2 := Z3.out; have h3 := Z4.out; have h4 := Z5.out; have h5 := Z6.out; have h6 := Z7.out; have h7 := Z8.out; have h8 := Z9.out; have h9 := Z10.out; have h10 := U_P0.out; have h11 := U_S.out; have h12 := U_X.out; have h13 := U_Q0.out; omega)
  have W_10 : Hid (AB w2.heap.size w10 WM Wc Wr) := ab_only W_9.out ho (fun k hk hs => by have hx := GR.out k hs; have hy := WR.out k hk; have h0 := Z1.out; have h1 := Z2.out; have h2 := Z3.out; have h3 := Z4.out; have h4 := Z5.out; have h5 := Z6.out; have h6 := Z7.out; have h7 := Z8.out; have h8 := Z9.out; have h9 := Z10.out; have h10 := U_P0.out; have h11 := U_S.out; have h12 := U_X.out; have h13 := U_Q0.out; omega)
  have H_10 : Hid (MA w10 GM Gr 1 Gr.length) := hm
  clear hm
  clear ho cP00 cP01 cP02
  have hq : ¬ ((1 + sumA Gr : Nat) : Int) < 0 := by omega
  have cP00 : w10.cell? ⟨w.heap.size, 0, none⟩ = some (.int .i64 hd0) := (P0_10.out).cell 0
  have cP01 : w10.cell? ⟨w.heap.size, 1, none⟩ = some (.int .i64 vr0) := (P0_10.out).cell 1
  have cP02 : w10.cell? ⟨w.heap.size, 2, none⟩ = some (.slice a0 l0.length cap0) := (P0_10.out).cell 2
  go_wp2_with fail
  refine (heldS_any GM 1 Gc Gr _ H_10.out GL.out GS.out.2 (by omega) GS.out.1).mono ?_
  rintro e w11 ⟨rfl, hb⟩
  have B11 : Hid (Below w.heap.size w w11) := grow_on B10.out hb
  have Z11 : Hid (w10.heap.size ≤ w11.heap.size) := hb.size
  have P0_11 : Hid (Blk w11 w.heap.size #[.int .i64 hd0, .int .i64 vr0, .slice a0 l0.length cap0] 24) := P0_10.out.grow hb
  have W_11 : Hid (AB w2.heap.size w11 WM Wc Wr) := W_10.out.grow hb
  have H_11 : Hid (MA w11 GM Gr 1 Gr.length) := H_10.out.grow hb
  clear hb cP00 cP01 cP02
  have cP00 : w11.cell? ⟨w.heap.size, 0, none⟩ = some (.int .i64 hd0) := (P0_11.out).cell 0
  have cP01 : w11.cell? ⟨w.heap.size, 1, none⟩ = some (.int .i64 vr0) := (P0_11.out).cell 1
  have cP02 : w11.cell? ⟨w.heap.size, 2, none⟩ = some (.slice a0 l0.length cap0) := (P0_11.out).cell 2
  go_wp2_with fail
  refine (toPart_any hd0 vr0 a0 cap0 l0 _ (R0.out.below stays_rd B11.out) K0.out.1 K0.out.2.1).mono ?_
  rintro e w12 ⟨⟨CM, Cr, rfl, hA, hP⟩, hb⟩
  have C_12 : Hid (CB w11.heap.size w12 CM l0.length Cr) := hA.down (by first | exact Nat.le_refl _ | simp)
  have CP : Hid (chs Cr = l0) := hP
  have U_C : Hid (w11.heap.size ≤ CM ∧ CM < w12.heap.size) := ⟨C_12.out.at', C_12.out.lt⟩
  clear hA hP
  have B12 : Hid (Below w.heap.size w w12) := grow_on B11.out hb
  have Z12 : Hid (w11.heap.size ≤ w12.heap.size) := hb.size
  have P0_12 : Hid (Blk w12 w.heap.size #[.int .i64 hd0, .int .i64 vr0, .slice a0 l0.length cap0] 24) := P0_11.out.grow hb
  have W_12 : Hid (AB w2.heap.size w12 WM Wc Wr) := W_11.out.grow hb
  have H_12 : Hid (MA w12 GM Gr 1 Gr.length) := H_11.out.grow hb
  clear hb cP00 cP01 cP02
  have cP00 : w12.cell? ⟨w.heap.size, 0, none⟩ = some (.int .i64 hd0) := (P0_12.out).cell 0
  have cP01 : w12.cell? ⟨w.heap.size, 1, none⟩ = some (.int .i64 vr0) := (P0_12.out).cell 1
  have cP02 : w12.cell? ⟨w.heap.size, 2, none⟩ = some (.slice a0 l0.length cap0) := (P0_12.out).cell 2
  go_wp2_with fail
  refine (PrtA.implAll_any hd0 vr0 _ _ l0 _ (rdC C_12.out CP.out) K0.out.1 N0.out K0.out.2.1).mono ?_
  rintro e w13 ⟨⟨VM, Vc, Vr, rfl, hA, hP⟩, hb⟩
  have V_13 : Hid (AB w12.heap.size w13 VM Vc Vr) := hA.down (by first | exact Nat.le_refl _ | simp)
  have VP : Hid (pals Vr = PrtA.allC l0) := hP
  have VR : Hid (∀ k, blks VM Vr k → w12.heap.size ≤ k ∧ k < w13.heap.size) := fun k hk => rng V_13.out k hk
  have VL : Hid (∀ x ∈ Vr, x.2.2.l.length ≤ 1048576) := row_len hA
  clear hA hP
  have B13 : Hid (Below w.heap.size w w13) := grow_on B12.out hb
  have Z13 : Hid (w12.heap.size ≤ w13.heap.size) := hb.size
  have P0_13 : Hid (Blk w13 w.heap.size #[.int .i64 hd0, .int .i64 vr0, .slice a0 l0.length cap0] 24) := P0_12.out.grow hb
  have W_13 : Hid (AB w2.heap.size w13 WM Wc Wr) := W_12.out.grow hb
  have H_13 : Hid (MA w13 GM Gr 1 Gr.length) := H_12.out.grow hb
  have C_13 : Hid (CB w11.heap.size w13 CM l0.length Cr) := C_12.out.grow hb
  clear hb cP00 cP01 cP02
  have cP00 : w13.cell? ⟨w.heap.size, 0, none⟩ = some (.int .i64 hd0) := (P0_13.out).cell 0
  have cP01 : w13.cell? ⟨w.heap.size, 1, none⟩ = some (.int .i64 vr0) := (P0_13.out).cell 1
  have cP02 : w13.cell? ⟨w.heap.size, 2, none⟩ = some (.slice a0 l0.length cap0) := (P0_13.out).cell 2
  go_wp2_with fail
  refine (eqA_any _ _ _ _ _ _ _ _ Vr Wr _ _ V_13.out W_13.out VP.out WP.out PL.out.1 PL.out.2).mono ?_
  rintro e w14 ⟨rfl, hb⟩
  have B14 : Hid (Below w.heap.size w w14) := grow_on B13.out hb
  have Z14 : Hid (w13.heap.size ≤ w14.heap.size) := hb.size
  have P0_14 : Hid (Blk w14 w.heap.size #[.int .i64 hd0, .int .i64 vr0, .slice a0 l0.length cap0] 24) := P0_13.out.grow hb
  have W_14 : Hid (AB w2.heap.size w14 WM Wc Wr) := W_13.out.grow hb
  have H_14 : Hid (MA w14 GM Gr 1 Gr.length) := H_13.out.grow hb
  have V_14 : Hid (AB w12.heap.size w14 VM Vc Vr) := V_13.out.grow hb
  clear hb cP00 cP01 cP02
  have hq : ¬ ((1 + sumA Gr : Nat) : Int) < 0 := by omega
  have cP00 : w14.cell? ⟨w.heap.size, 0, none⟩ = some (.int .i64 hd0) := (P0_14.out).cell 0
  have cP01 : w14.cell? ⟨w.heap.size, 1, none⟩ = some (.int .i64 vr0) := (P0_14.out).cell 1
  have cP02 : w14.cell? ⟨w.heap.size, 2, none⟩ = some (.slice a0 l0.length cap0) := (P0_14.out).cell 2
  go_wp2_with fail
  refine (heldS_any GM 1 Gc Gr _ H_14.out GL.out GS.out.2 (by omega) GS.out.1).mono ?_
  rintro e w15 ⟨rfl, hb⟩
  have B15 : Hid (Below w.heap.size w w15) := grow_on B14.out hb
  have Z15 : Hid (w14.heap.size ≤ w15.heap.size) := hb.size
  have P0_15 : Hid (Blk w15 w.heap.size #[.int .i64 hd0, .int .i64 vr0, .slice a0 l0.length cap0] 24) := P0_14.out.grow hb
  have W_15 : Hid (AB w2.heap.size w15 WM Wc Wr) := W_14.out.grow hb
  have H_15 : Hid (MA w15 GM Gr 1 Gr.length) := H_14.out.grow hb
  have V_15 : Hid (AB w12.heap.size w15 VM Vc Vr) := V_14.out.grow hb
  clear hb cP00 cP01 cP02
  have cP00 : w15.cell? ⟨w.heap.size, 0, none⟩ = some (.int .i64 hd0) := (P0_15.out).cell 0
  have cP01 : w15.cell? ⟨w.heap.size, 1, none⟩ = some (.int .i64 vr0) := (P0_15.out).cell 1
  have cP02 : w15.cell? ⟨w.heap.size, 2, none⟩ = some (.slice a0 l0.length cap0) := (P0_15.out).cell 2
  go_wp2
  go_ret
  exact ⟨rfl, B15.out⟩
theorem own : ownKnob Try.prog.godebug = none := by kernel_rfl
theorem laidOut : laidOutB Try.prog = true := by kernel_rfl
set_option maxRecDepth 100000 in
theorem lifted (os : Os) (started : os.Started) (H : Type) (enc : TypeId × Value → H) :
    ReturnsInHanded {} Try.checked os 4 .any (Rows.fnExactAlarmsInSpec.pre6 enc Try.prog Try.f4 Rows.fnExactAlarmsInRow.domain false) (Rows.fnExactAlarmsInSpec.post enc Try.prog Try.f4 false true false false) := by
  refine returnsInHanded_of_change (C := Try.checked) own started (by kernel_rfl) Try.func4
    (ChangeSpec.witness6 (enc := enc) (C := Try.checked) false ⟨#[], #[.agg #[.int .i64 0, .int .i64 0, .slice none 0 0]], []⟩ 8 (by kernel_rfl) (by kernel_rfl) (by kernel_rfl) (by kernel_rfl)) ?_
  intro W base args ds gs before hval0 hW hcnd _
  have hval : ∀ (j : Nat) t v, Try.f4.params[j]? = some t → args[j]? = some v → Value.okWide Try.prog W .any base t v := hval0
  have hW' := hW
  obtain ⟨p, q, hA0, hV, rfl, hfz, hnd⟩ := hW
  have hA : DataW.TrodAll enc Try.prog W 0 (fun _ => true) true Try.f4.params.toList args.toList ds p := hA0
  rw [Try.params4] at hA hval
  obtain ⟨v0, vs0, d0, ds0, p0, q0, hargs, rfl, rfl, h0, r0⟩ := trodAll_cons hA
  obtain ⟨rfl, rfl, rfl⟩ := trodAll_nil r0
  obtain rfl : args = #[v0] := by cases args; simp_all
  obtain ⟨rfl, rfl⟩ := trodVars_none hV
  have k0 := h0
  have lt0 : ∀ x ∈ p0, x.block < W.heap.size := by obtain ⟨m, hm⟩ := k0; exact DataW.trod_lt m _ _ _ hm
  obtain ⟨hd0, vr0, a0, cap0, l0, rfl, w0, m0, z0, y0, x0⟩ := Go.Proofs.Ytcopckbpflmmeab.Prt.open_part (hval 0 24 v0 rfl rfl) h0
  clear hA0 hval0
  refine (walk hd0 vr0 a0 cap0 l0 W w0 m0 z0 y0 x0).mono fun e W' ⟨he, bel⟩ => ?_
  subst he
  exact ⟨_, rfl, _, _, _, [], _, [], hW', trodAll_mk1 (shut_bool Try.underlying4 _), (trodAll_cons_mk (Below.trod laidOut (by kernel_rfl) (of_decide_eq_true (by kernel_rfl)) k0 bel lt0) trodAll_mk0), rfl, bel.frame _, fun h => by cases h⟩

theorem over : Rows.fnExactAlarmsInRow.holds Try.pinned (OpenSpec.ofChange Rows.fnExactAlarmsInSpec) :=
  OpenClaim.holds_of_wide 4 Try.f4 rfl rfl rfl rfl rfl rfl rfl ⟨rfl, rfl, rfl, rfl, rfl⟩ rfl rfl rfl rfl rfl (by kernel_rfl) Try.func4 (by kernel_rfl)
    (of_decide_eq_true (by kernel_rfl)) (by unfold Func.isWrapper; first | (rw [if_pos (by decide +kernel)]; kernel_rfl) | (rw [if_neg (by decide +kernel)]; exact ⟨rfl, rfl⟩))
    (fun os started H enc _ => lifted os started H enc)

end Go.Proofs.Ytcopckbpflmmeab.FnExactAlarmsIn
namespace Go.Proofs.Ytcopckbpflmmeab
theorem fnExactAlarmsIn_holds : Rows.FnExactAlarmsInSaid := FnExactAlarmsIn.over
#print axioms fnExactAlarmsIn_holds
end Go.Proofs.Ytcopckbpflmmeab
