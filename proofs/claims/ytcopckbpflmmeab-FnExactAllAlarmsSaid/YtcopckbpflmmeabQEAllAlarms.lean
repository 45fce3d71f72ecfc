/-
  PROVED: at every slice of parts impl.AllAlarms answers as spec.AllAlarms, leaves the parts as they were, keeps nothing of them, and its answer lies in memory of its own, so the law laws.FnExactAllAlarms returns true, whatever its argument. No condition.
-/
import Derived.Test.YtcopckbpflmmeabRows
import Derived.WalkKit
import Derived.ProofKit
import Derived.OpenShut
import Derived.ShutString
import Derived.ChangeOld
import Derived.Below
import Derived.WalkLawsBesides
import Derived.WalkSpells
import Derived.Test.YtcopckbpflmmeabQStsA
import Derived.Test.YtcopckbpflmmeabQStsM
import Derived.Deep.RegionHeld3
set_option linter.unusedVariables false
namespace Go.Proofs.Ytcopckbpflmmeab.FnExactAllAlarms
open Go.ChangeShapes Go.WideShapes Go.ChangeAt Go.RowKit
open Go.ChangeMaps (open_string shut_string)

open Labs LabS Over Blk Alms Rws ChnC ChnK Chs Prt
open Alm (AlIn)
open LabT (held_reads)
open PrtM (MC blksC blksC_low blksC_high sumM sumM_chs)
theorem len_of {rs : List ARow} {P : List PAl} (h : pals rs = P) : rs.length = P.length := by rw [← pals_len, h]
theorem lenc_of {cs : List CRow} {C : List PCh} (h : chs cs = C) : cs.length = C.length := by rw [← chs_len, h]
theorem eqA_any (M M' c c' lo lo' d d' : Nat) (rs rs' : List ARow) (P : List PAl) (w : World) (h : AB lo w M d rs) (h' : AB lo' w M' d' rs') (hp : pals rs = P) (hp' : pals rs' = P) (hl : P.length ≤ maxLen) (hz : FitsP P) :
    Calls Try.prog 12 #[.slice (some ⟨M, 0, none⟩) rs.length c, .slice (some ⟨M', 0, none⟩) rs'.length c'] w fun e w' => e = .returned (.bool true) ∧ Below w.heap.size w w' := by
  have h1 := h.rd
  have h2 := h'.rd
  rw [hp] at h1
  rw [hp'] at h2
  rw [len_of hp, len_of hp']
  exact Alms.eq_any _ _ c c' P w h1.rd h2.rd hl hz
theorem rng {lo : Nat} {w : World} {M c : Nat} {rs : List ARow} (h : AB lo w M c rs) : ∀ k, blks M rs k → lo ≤ k ∧ k < w.heap.size := fun k hk => ⟨blks_low h k hk, blks_high h k hk⟩
theorem rngC {lo : Nat} {w : World} {M c : Nat} {cs : List CRow} (h : CB lo w M c cs) : ∀ k, blksC M cs k → lo ≤ k ∧ k < w.heap.size := fun k hk => ⟨blksC_low h k hk, blksC_high h k hk⟩
theorem row_len {lo : Nat} {w : World} {M c : Nat} {rs : List ARow} (h : AB lo w M c rs) : ∀ x ∈ rs, x.2.2.l.length ≤ 1048576 := fun x hx => (h.rows x hx).2.1
theorem rowC_len {lo : Nat} {w : World} {M c : Nat} {cs : List CRow} {C : List PCh} (h : CB lo w M c cs) (hp : chs cs = C) (hs : sumC C ≤ 2000000) : ∀ x ∈ cs, x.rs.length ≤ 2000000 ∧ ∀ y ∈ x.rs, y.2.2.l.length ≤ 1048576 := fun x hx => by
  refine ⟨?_, row_len (h.rows.rows x hx)⟩
  have hm : x.ch ∈ C := by rw [← hp]; exact List.mem_map.2 ⟨x, hx, rfl⟩
  have h1 := sumC_mem hm
  have h2 := pals_len x.rs
  have h3 : x.ch.P = pals x.rs := rfl
  rw [h3] at h1
  omega
theorem marksC {cs : List CRow} {C : List PCh} (hp : chs cs = C) (hl : C.length ≤ 1100000) (hs : sumC C ≤ 2200000) : 1 + sumM cs ≤ 8000000 := by
  have h1 := sumM_chs cs
  rw [hp, lenc_of hp] at h1
  omega
open Sts
open StsM (MP blksS blksS_low blksS_high sumQ sumQ_pts Fine8 fine8 pb_only)
theorem rngS {lo : Nat} {w : World} {M c : Nat} {ps : List PRow} (h : PB lo w M c ps) : ∀ k, blksS M ps k → lo ≤ k ∧ k < w.heap.size := fun k hk => ⟨blksS_low h k hk, blksS_high h k hk⟩
theorem lent_of {ps : List PRow} {S : List PPt} (h : pts ps = S) : ps.length = S.length := by rw [← pts_len, h]
theorem marksT {ps : List PRow} {S : List PPt} (hp : pts ps = S) (hl : S.length ≤ 1100000) (hs : sumT S ≤ 1200000) : 1 + sumQ ps ≤ 8000000 := by
  have h1 := sumQ_pts ps
  rw [hp, lent_of hp] at h1
  omega
open StsA (allT allT_sum allT_mem)
open SrtP (sortP sort_perm sum_perm)
theorem rnT {lo : Nat} {w : World} {M c : Nat} {ps : List PRow} {S : List PPt} (h : PB lo w M c ps) (hp : pts ps = S) : RdS RdN w (some ⟨M, 0, none⟩) S := by have := h.rn; rwa [hp] at this
theorem rdT {lo : Nat} {w : World} {M c : Nat} {ps : List PRow} {S : List PPt} (h : PB lo w M c ps) (hp : pts ps = S) : RdS RdA w (some ⟨M, 0, none⟩) S := (rnT h hp).rd
set_option maxRecDepth 100000 in
set_option maxHeartbeats 4000000 in
theorem walk (a0 : Option Addr) (cap0 : Nat) (l0 : List PPt) (w : World) (r0 : RdS RdA w a0 l0) (m0 : l0.length ≤ maxLen) (z0 : FitsT l0) :
    Calls Try.prog 6 #[.slice a0 l0.length cap0] w fun e w' => e = .returned (.bool true) ∧ Below w.heap.size w w' := by
  have R0 : Hid (RdS RdA w a0 l0) := r0
  have M0 : Hid (l0.length ≤ maxLen) := m0
  have F0 : Hid (FitsT l0) := z0
  clear r0 m0 z0
  have B0 : Hid (Below w.heap.size w w) := Below.refl _ _
  go_enter Try.func6, Try.ntmps6
  go_wp2_with fail
  refine (szPS_any a0 cap0 l0 1048576 _ (R0.out.below stays_rd B0.out) M0.out F0.out (by omega) (by omega)).mono ?_
  rintro e w1 ⟨⟨k0, rfl, p0, hn⟩, hb⟩
  have B1 : Hid (Below w.heap.size w w1) := grow_on B0.out hb
  have Z1 : Hid (w.heap.size ≤ w1.heap.size) := hb.size
  clear hb
  by_cases g0 : k0 < 0
  · clear hn
    go_wp2
    go_ret
    exact ⟨rfl, B1.out⟩
  have K0 : Hid (l0.length ≤ 1048576 ∧ sumT l0 ≤ 1048576 ∧ l0.length + sumT l0 ≤ 1048576) := by have := hn (by omega); exact ⟨by omega, by omega, by omega⟩
  clear hn
  have PL : Hid ((sortP (allT l0)).length ≤ maxLen ∧ FitsP (sortP (allT l0)) ∧ (sortP (allT l0)).length + sumL (sortP (allT l0)) ≤ 1048576) := by
    have h1 := allT_sum l0
    have h2 := K0.out.2.1
    have h3 := (sort_perm (allT l0)).length_eq
    have h4 := sum_perm (sort_perm (allT l0))
    refine ⟨ChnK.len_max (by omega), fits_of fun x hx => ?_, by omega⟩
    obtain ⟨p, hp, hx⟩ := allT_mem ((sort_perm (allT l0)).symm.subset hx)
    obtain ⟨c, hc, h⟩ := PrtA.allC_mem hx
    exact fits_mem ((F0.out p hp).fits c hc).fits h
  go_wp2_with fail
  refine (toPS_any a0 cap0 l0 _ (R0.out.below stays_rd B1.out) K0.out.1 K0.out.2.1).mono ?_
  rintro e w2 ⟨rfl, ⟨Sr, hA, hP, hO⟩, hb⟩
  have S_2 : Hid (PB w1.heap.size w2 w1.heap.size l0.length Sr) := (by first | exact hA | (have hA2 := hA; simp at hA2; exact hA2))
  have SP : Hid (pts Sr = l0 ∧ Own8 Sr) := ⟨hP, hO⟩
  have U_S : Hid (w1.heap.size ≤ w1.heap.size ∧ w1.heap.size < w2.heap.size) := ⟨by omega, S_2.out.lt⟩
  clear hA hP hO
  have B2 : Hid (Below w.heap.size w w2) := grow_on B1.out hb
  have Z2 : Hid (w1.heap.size ≤ w2.heap.size) := hb.size
  clear hb
  go_wp2_with fail
  refine (StsA.specAllS_any _ _ l0 _ (rnT S_2.out SP.out.1) K0.out.1 K0.out.2.1).mono ?_
  rintro e w3 ⟨⟨WM, Wc, Wr, rfl, hA, hP⟩, hb⟩
  have W_3 : Hid (AB w2.heap.size w3 WM Wc Wr) := hA
  have WP : Hid (pals Wr = sortP (allT l0)) := hP
  have WR : Hid (∀ k, blks WM Wr k → w2.heap.size ≤ k ∧ k < w3.heap.size) := fun k hk => rng W_3.out k hk
  have WL : Hid (∀ x ∈ Wr, x.2.2.l.length ≤ 1048576) := row_len hA
  clear hA hP
  have B3 : Hid (Below w.heap.size w w3) := grow_on B2.out hb
  have Z3 : Hid (w2.heap.size ≤ w3.heap.size) := hb.size
  have S_3 : Hid (PB w1.heap.size w3 w1.heap.size l0.length Sr) := S_2.out.grow hb
  clear hb
  go_wp2_with fail
  refine (toPS_any a0 cap0 l0 _ (R0.out.below stays_rd B3.out) K0.out.1 K0.out.2.1).mono ?_
  rintro e w4 ⟨rfl, ⟨Xr, hA, hP, hO⟩, hb⟩
  have X_4 : Hid (PB w3.heap.size w4 w3.heap.size l0.length Xr) := (by first | exact hA | (have hA2 := hA; simp at hA2; exact hA2))
  have XP : Hid (pts Xr = l0 ∧ Own8 Xr) := ⟨hP, hO⟩
  have U_X : Hid (w3.heap.size ≤ w3.heap.size ∧ w3.heap.size < w4.heap.size) := ⟨by omega, X_4.out.lt⟩
  clear hA hP hO
  have B4 : Hid (Below w.heap.size w w4) := grow_on B3.out hb
  have Z4 : Hid (w3.heap.size ≤ w4.heap.size) := hb.size
  have W_4 : Hid (AB w2.heap.size w4 WM Wc Wr) := W_3.out.grow hb
  clear hb
  have XR : Hid (∀ k, blksS w3.heap.size Xr k → w3.heap.size ≤ k ∧ k < w4.heap.size) := rngS X_4.out
  go_wp2_with fail
  refine (StsA.implAllS_any _ _ l0 _ (rdT X_4.out XP.out.1) K0.out.1 K0.out.2.1).mono ?_
  rintro e w5 ⟨⟨GM, Gc, Gr, rfl, hA, hP⟩, hb⟩
  have G_5 : Hid (AB w4.heap.size w5 GM Gc Gr) := hA
  have GP : Hid (pals Gr = sortP (allT l0)) := hP
  have GR : Hid (∀ k, blks GM Gr k → w4.heap.size ≤ k ∧ k < w5.heap.size) := fun k hk => rng G_5.out k hk
  have GL : Hid (∀ x ∈ Gr, x.2.2.l.length ≤ 1048576) := row_len hA
  clear hA hP
  have B5 : Hid (Below w.heap.size w w5) := grow_on B4.out hb
  have Z5 : Hid (w4.heap.size ≤ w5.heap.size) := hb.size
  have W_5 : Hid (AB w2.heap.size w5 WM Wc Wr) := W_4.out.grow hb
  have X_5 : Hid (PB w3.heap.size w5 w3.heap.size l0.length Xr) := X_4.out.grow hb
  clear hb
  go_wp2_with fail
  refine (eqA_any _ _ _ _ _ _ _ _ Gr Wr _ _ G_5.out W_5.out GP.out WP.out PL.out.1 PL.out.2.1).mono ?_
  rintro e w6 ⟨rfl, hb⟩
  have B6 : Hid (Below w.heap.size w w6) := grow_on B5.out hb
  have Z6 : Hid (w5.heap.size ≤ w6.heap.size) := hb.size
  have W_6 : Hid (AB w2.heap.size w6 WM Wc Wr) := W_5.out.grow hb
  have X_6 : Hid (PB w3.heap.size w6 w3.heap.size l0.length Xr) := X_5.out.grow hb
  have G_6 : Hid (AB w4.heap.size w6 GM Gc Gr) := G_5.out.grow hb
  clear hb
  go_wp2_with fail
  refine (toPS_any a0 cap0 l0 _ (R0.out.below stays_rd B6.out) K0.out.1 K0.out.2.1).mono ?_
  rintro e w7 ⟨rfl, ⟨Er, hA, hP, hO⟩, hb⟩
  have E_7 : Hid (PB w6.heap.size w7 w6.heap.size l0.length Er) := (by first | exact hA | (have hA2 := hA; simp at hA2; exact hA2))
  have EP : Hid (pts Er = l0 ∧ Own8 Er) := ⟨hP, hO⟩
  have U_E : Hid (w6.heap.size ≤ w6.heap.size ∧ w6.heap.size < w7.heap.size) := ⟨by omega, E_7.out.lt⟩
  clear hA hP hO
  have B7 : Hid (Below w.heap.size w w7) := grow_on B6.out hb
  have Z7 : Hid (w6.heap.size ≤ w7.heap.size) := hb.size
  have W_7 : Hid (AB w2.heap.size w7 WM Wc Wr) := W_6.out.grow hb
  have X_7 : Hid (PB w3.heap.size w7 w3.heap.size l0.length Xr) := X_6.out.grow hb
  have G_7 : Hid (AB w4.heap.size w7 GM Gc Gr) := G_6.out.grow hb
  clear hb
  go_wp2_with fail
  refine (eqPS_any _ _ _ _ l0 _ (rdT X_7.out XP.out.1) (rdT E_7.out EP.out.1) M0.out F0.out).mono ?_
  rintro e w8 ⟨rfl, hb⟩
  have B8 : Hid (Below w.heap.size w w8) := grow_on B7.out hb
  have Z8 : Hid (w7.heap.size ≤ w8.heap.size) := hb.size
  have W_8 : Hid (AB w2.heap.size w8 WM Wc Wr) := W_7.out.grow hb
  have X_8 : Hid (PB w3.heap.size w8 w3.heap.size l0.length Xr) := X_7.out.grow hb
  have G_8 : Hid (AB w4.heap.size w8 GM Gc Gr) := G_7.out.grow hb
  have E_8 : Hid (PB w6.heap.size w8 w6.heap.size l0.length Er) := E_7.out.grow hb
  clear hb
  have XL : Hid (Xr.length = l0.length) := lent_of XP.out.1
  have XS : Hid (1 + sumQ Xr ≤ 8000000) := marksT XP.out.1 (by have := K0.out; omega) (by have := K0.out; omega)
  have hXM : Hid (Calls Try.prog 22 #[.slice (some ⟨w3.heap.size, 0, none⟩) l0.length l0.length, .int .i64 1] w8 fun e w' => e = .returned (.int .i64 ((1 + sumQ Xr : Nat) : Int)) ∧ Only (blksS w3.heap.size Xr) w8 w') := by
    have h := (StsM.markPS_any w3.heap.size l0.length 1 _ l0.length Xr w8 X_8.out XP.out.2 (by rw [XL.out]; have := K0.out.1; omega) (fine8 X_8.out XP.out.1 (by have := K0.out; omega)) (by omega) (by have := XS.out; omega)).mono (fun e w' h => (⟨h.1, h.2.2⟩ : e = .returned (.int .i64 ((1 + sumQ Xr : Nat) : Int)) ∧ Only (blksS w3.heap.size Xr) w8 w'))
    rw [XL.out] at h
    exact h
  go_wp2_with fail
  refine (hXM.out).mono ?_
  rintro e w9 ⟨rfl, ho⟩
  have B9 : Hid (Below w.heap.size w w9) := B8.out.trans (ho.low (fun k hk => by have hx := XR.out k hk; have hw := B3.out.size; omega) B8.out.size)
  have Z9 : Hid (w8.heap.size ≤ w9.heap.size) := ho.size
  have W_9 : Hid (AB w2.heap.size w9 WM Wc Wr) := ab_only W_8.out ho (fun k hk hs => by have hx := XR.out k hs; have hy := WR.out k hk; have h0 := Z1.out; have h1 := Z2.out; have h2 := Z3.out; have h3 := Z4.out; have h4 := Z5.out; have h5 := Z6.out; have h6 := Z7.out; have h7 := Z8.out; have h8 := Z9.out; have h9 := U_S.out; have h10 := U_X.out; have h11 := U_E.out; omega)
  have G_9 : Hid (AB w4.heap.size w9 GM Gc Gr) := ab_only G_8.out ho (fun k hk hs => by have hx := XR.out k hs; have hy := GR.out k hk; have h0 := Z1.out; have h1 := Z2.out; have h2 := Z3.out; have h3 := Z4.out; have h4 := Z5.out; have h5 := Z6.out; have h6 := Z7.out; have h7 := Z8.out; have h8 := Z9.out; have h9 := U_S.out; have h10 := U_X.out; have h11 := U_E.out; omega)
  clear ho 
  have hq : ¬ ((1 + sumQ Xr : Nat) : Int) < 0 := by omega
  generalize 1 + sumQ Xr = m1 at hq ⊢
  go_wp2_with fail
  refine (eqA_any _ _ _ _ _ _ _ _ Gr Wr _ _ G_9.out W_9.out GP.out WP.out PL.out.1 PL.out.2.1).mono ?_
  rintro e w10 ⟨rfl, hb⟩
  have B10 : Hid (Below w.heap.size w w10) := grow_on B9.out hb
  have Z10 : Hid (w9.heap.size ≤ w10.heap.size) := hb.size
  have W_10 : Hid (AB w2.heap.size w10 WM Wc Wr) := W_9.out.grow hb
  have G_10 : Hid (AB w4.heap.size w10 GM Gc Gr) := G_9.out.grow hb
  clear hb
  clear hq
  have GS : Hid (1 + sumA Gr ≤ 9000000 ∧ Gr.length ≤ 2000000) := by
    have h1 := sumA_pals Gr
    rw [GP.out, len_of GP.out] at h1
    have h3 := PL.out.2.2
    have h4 := len_of GP.out
    exact ⟨by omega, by omega⟩
  go_wp2_with fail
  refine (markS_any GM Gc 1 _ Gc Gr w10 G_10.out GS.out.2 (by omega) GS.out.1).mono ?_
  rintro e w11 ⟨rfl, hm, ho⟩
  have B11 : Hid (Below w.heap.size w w11) := B10.out.trans (ho.low (fun k hk => by have hx := GR.out k hk; have hw := B4.out.size; have h0 := Z1.out; have h1 := Z2.out; have h2 := Z3.out; have h3 := Z4.out; have h4 := Z5.out; have h5 := Z6.out; have h6 := Z7.out; have h7 := Z8.out; have h8 := Z9.out; have h9 := Z10.out; have h10 := U_S.out; have h11 := U_X.out; have h12 := U_E.out; omega) B10.out.size)
  have Z11 : Hid (w10.heap.size ≤ w11.heap.size) := ho.size
  have W_11 : Hid (AB w2.heap.size w11 WM Wc Wr) := ab_only W_10.out ho (fun k hk hs => by have hx := GR.out k hs; have hy := WR.out k hk; have h0 := Z1.out; have h1 := Z2.out; have h2 := Z3.out; have h3 := Z4.out; have h4 := Z5.out; have h5 := Z6.out; have h6 := Z7.out; have h7 := Z8.out; have h8 := Z9.out; have h9 := Z10.out; have h10 := Z11.out; have h11 := U_S.out; have h12 := U_X.out; have h13 := U_E.out; omega)
  have H_11 : Hid (MA w11 GM Gr 1 Gr.length) := hm
  clear hm
  clear ho 
  have hq : ¬ ((1 + sumA Gr : Nat) : Int) < 0 := by omega
  go_wp2_with fail
  refine (heldS_any GM 1 Gc Gr _ H_11.out GL.out GS.out.2 (by omega) GS.out.1).mono ?_
  rintro e w12 ⟨rfl, hb⟩
  have B12 : Hid (Below w.heap.size w w12) := grow_on B11.out hb
  have Z12 : Hid (w11.heap.size ≤ w12.heap.size) := hb.size
  have W_12 : Hid (AB w2.heap.size w12 WM Wc Wr) := W_11.out.grow hb
  have H_12 : Hid (MA w12 GM Gr 1 Gr.length) := H_11.out.grow hb
  clear hb
  go_wp2_with fail
  refine (toPS_any a0 cap0 l0 _ (R0.out.below stays_rd B12.out) K0.out.1 K0.out.2.1).mono ?_
  rintro e w13 ⟨rfl, ⟨Cr, hA, hP, hO⟩, hb⟩
  have C_13 : Hid (PB w12.heap.size w13 w12.heap.size l0.length Cr) := (by first | exact hA | (have hA2 := hA; simp at hA2; exact hA2))
  have CP : Hid (pts Cr = l0 ∧ Own8 Cr) := ⟨hP, hO⟩
  have U_C : Hid (w12.heap.size ≤ w12.heap.size ∧ w12.heap.size < w13.heap.size) := ⟨by omega, C_13.out.lt⟩
  clear hA hP hO
  have B13 : Hid (Below w.heap.size w w13) := grow_on B12.out hb
  have Z13 : Hid (w12.heap.size ≤ w13.heap.size) := hb.size
  have W_13 : Hid (AB w2.heap.size w13 WM Wc Wr) := W_12.out.grow hb
  have H_13 : Hid (MA w13 GM Gr 1 Gr.length) := H_12.out.grow hb
  clear hb
  go_wp2_with fail
  refine (StsA.implAllS_any _ _ l0 _ (rdT C_13.out CP.out.1) K0.out.1 K0.out.2.1).mono ?_
  rintro e w14 ⟨⟨VM, Vc, Vr, rfl, hA, hP⟩, hb⟩
  have V_14 : Hid (AB w13.heap.size w14 VM Vc Vr) := hA
  have VP : Hid (pals Vr = sortP (allT l0)) := hP
  have VR : Hid (∀ k, blks VM Vr k → w13.heap.size ≤ k ∧ k < w14.heap.size) := fun k hk => rng V_14.out k hk
  have VL : Hid (∀ x ∈ Vr, x.2.2.l.length ≤ 1048576) := row_len hA
  clear hA hP
  have B14 : Hid (Below w.heap.size w w14) := grow_on B13.out hb
  have Z14 : Hid (w13.heap.size ≤ w14.heap.size) := hb.size
  have W_14 : Hid (AB w2.heap.size w14 WM Wc Wr) := W_13.out.grow hb
  have H_14 : Hid (MA w14 GM Gr 1 Gr.length) := H_13.out.grow hb
  have C_14 : Hid (PB w12.heap.size w14 w12.heap.size l0.length Cr) := C_13.out.grow hb
  clear hb
  go_wp2_with fail
  refine (eqA_any _ _ _ _ _ _ _ _ Vr Wr _ _ V_14.out W_14.out VP.out WP.out PL.out.1 PL.out.2.1).mono ?_
  rintro e w15 ⟨rfl, hb⟩
  have B15 : Hid (Below w.heap.size w w15) := grow_on B14.out hb
  have Z15 : Hid (w14.heap.size ≤ w15.heap.size) := hb.size
  have W_15 : Hid (AB w2.heap.size w15 WM Wc Wr) := W_14.out.grow hb
  have H_15 : Hid (MA w15 GM Gr 1 Gr.length) := H_14.out.grow hb
  have V_15 : Hid (AB w13.heap.size w15 VM Vc Vr) := V_14.out.grow hb
  clear hb
  have hq : ¬ ((1 + sumA Gr : Nat) : Int) < 0 := by omega
  go_wp2_with fail
  refine (heldS_any GM 1 Gc Gr _ H_15.out GL.out GS.out.2 (by omega) GS.out.1).mono ?_
  rintro e w16 ⟨rfl, hb⟩
  have B16 : Hid (Below w.heap.size w w16) := grow_on B15.out hb
  have Z16 : Hid (w15.heap.size ≤ w16.heap.size) := hb.size
  have W_16 : Hid (AB w2.heap.size w16 WM Wc Wr) := W_15.out.grow hb
  have H_16 : Hid (MA w16 GM Gr 1 Gr.length) := H_15.out.grow hb
  have V_16 : Hid (AB w13.heap.size w16 VM Vc Vr) := V_15.out.grow hb
  clear hb
  go_wp2
  go_ret
  exact ⟨rfl, B16.out⟩
theorem own : ownKnob Try.prog.godebug = none := by kernel_rfl
theorem laidOut : laidOutB Try.prog = true := by kernel_rfl
set_option maxRecDepth 100000 in
theorem lifted (os : Os) (started : os.Started) (H : Type) (enc : TypeId × Value → H) :
    ReturnsInHanded {} Try.checked os 6 .any (Rows.fnExactAllAlarmsSpec.pre6 enc Try.prog Try.f6 Rows.fnExactAllAlarmsRow.domain false) (Rows.fnExactAllAlarmsSpec.post enc Try.prog Try.f6 false true false false) := by
  refine returnsInHanded_of_change (C := Try.checked) own started (by kernel_rfl) Try.func6
    (ChangeSpec.witness6 (enc := enc) (C := Try.checked) false ⟨#[], #[.slice none 0 0], []⟩ 8 (by kernel_rfl) (by kernel_rfl) (by kernel_rfl) (by kernel_rfl)) ?_
  intro W base args ds gs before hval0 hW hcnd _
  have hval : ∀ (j : Nat) t v, Try.f6.params[j]? = some t → args[j]? = some v → Value.okWide Try.prog W .any base t v := hval0
  have hW' := hW
  obtain ⟨p, q, hA0, hV, rfl, hfz, hnd⟩ := hW
  have hA : DataW.TrodAll enc Try.prog W 0 (fun _ => true) true Try.f6.params.toList args.toList ds p := hA0
  rw [Try.params6] at hA hval
  obtain ⟨v0, vs0, d0, ds0, p0, q0, hargs, rfl, rfl, h0, r0⟩ := trodAll_cons hA
  obtain ⟨rfl, rfl, rfl⟩ := trodAll_nil r0
  obtain rfl : args = #[v0] := by cases args; simp_all
  obtain ⟨rfl, rfl⟩ := trodVars_none hV
  obtain ⟨a0, len0, cap0, rfl⟩ := okWide_slice Try.underlying45 (hval 0 45 v0 rfl rfl)
  have k0 := h0
  have lt0 : ∀ x ∈ p0, x.block < W.heap.size := by obtain ⟨m, hm⟩ := k0; exact DataW.trod_lt m _ _ _ hm
  obtain ⟨l0, rfl, w0, m0, f0⟩ := Go.Proofs.Ytcopckbpflmmeab.Sts.open_parts h0
  clear hA0 hval0
  refine (walk a0 cap0 l0 W w0 m0 f0).mono fun e W' ⟨he, bel⟩ => ?_
  subst he
  exact ⟨_, rfl, _, _, _, [], _, [], hW', trodAll_mk1 (shut_bool Try.underlying4 _), (trodAll_cons_mk (Below.trod laidOut (by kernel_rfl) (of_decide_eq_true (by kernel_rfl)) k0 bel lt0) trodAll_mk0), rfl, bel.frame _, fun h => by cases h⟩

theorem over : Rows.fnExactAllAlarmsRow.holds Try.pinned (OpenSpec.ofChange Rows.fnExactAllAlarmsSpec) :=
  OpenClaim.holds_of_wide 6 Try.f6 rfl rfl rfl rfl rfl rfl rfl ⟨rfl, rfl, rfl, rfl, rfl⟩ rfl rfl rfl rfl rfl (by kernel_rfl) Try.func6 (by kernel_rfl)
    (of_decide_eq_true (by kernel_rfl)) (by unfold Func.isWrapper; first | (rw [if_pos (by decide +kernel)]; kernel_rfl) | (rw [if_neg (by decide +kernel)]; exact ⟨rfl, rfl⟩))
    (fun os started H enc _ => lifted os started H enc)

end Go.Proofs.Ytcopckbpflmmeab.FnExactAllAlarms
namespace Go.Proofs.Ytcopckbpflmmeab
theorem fnExactAllAlarms_holds : Rows.FnExactAllAlarmsSaid := FnExactAllAlarms.over
#print axioms fnExactAllAlarms_holds
end Go.Proofs.Ytcopckbpflmmeab
