/-
  PROVED: at every slice of alarms and every listener impl.Heard answers as spec.Heard, leaves them as they were, keeps nothing of them, and its answer lies in memory of its own, so the law laws.FnExactHeard returns true, whatever its arguments. No condition.
-/
import Derived.Test.YtdmhccheaemkkabRows
import Derived.WalkKit
import Derived.ProofKit
import Derived.OpenShut
import Derived.ShutString
import Derived.ChangeOld
import Derived.Below
import Derived.WalkLawsBesides
import Derived.WalkSpells
import Derived.Test.YtdmhccheaemkkabSub
import Derived.Test.YtdmhccheaemkkabHrd
import Derived.Deep.RegionHeld3
namespace Go.Proofs.Ytdmhccheaemkkab.FnExactHeard
open Go.ChangeShapes Go.WideShapes Go.ChangeAt Go.RowKit
open Go.ChangeMaps (open_string shut_string)
set_option linter.unusedVariables false

open Go.Proofs.Ytdmhccheaemkkab.Labs Go.Proofs.Ytdmhccheaemkkab.LabS Go.Proofs.Ytdmhccheaemkkab.Over Go.Proofs.Ytdmhccheaemkkab.Blk Go.Proofs.Ytdmhccheaemkkab.Alms Go.Proofs.Ytdmhccheaemkkab.Rws Go.Proofs.Ytdmhccheaemkkab.ChnC Go.Proofs.Ytdmhccheaemkkab.ChnK
open Go.Proofs.Ytdmhccheaemkkab.Que Go.Proofs.Ytdmhccheaemkkab.Hrd
open Go.Proofs.Ytdmhccheaemkkab.Alm (AlIn)
open Go.Proofs.Ytdmhccheaemkkab.Mark (Apart Marked)
open Go.Proofs.Ytdmhccheaemkkab.LabT (held_reads)
theorem eqL_any (M M' c c' lo lo' d d' : Nat) (rs rs' : List ARow) (P : List PAl) (w : World) (h : AB lo w M d rs) (h' : AB lo' w M' d' rs') (hp : pals rs = P) (hp' : pals rs' = P) (hl : P.length ≤ maxLen) (hz : FitsP P) :
    Calls Try.prog 22 #[.slice (some ⟨M, 0, none⟩) rs.length c, .slice (some ⟨M', 0, none⟩) rs'.length c'] w fun e w' => e = .returned (.bool true) ∧ Below w.heap.size w w' := by
  have h1 := h.rd
  have h2 := h'.rd
  rw [hp] at h1
  rw [hp'] at h2
  rw [Que.len_of hp, Que.len_of hp']
  exact Alms.eq_any _ _ c c' P w h1.rd h2.rd hl hz
theorem marks_le {rs : List ARow} {P : List PAl} {n m : Nat} (h : pals rs = P) (hl : P.length ≤ n) (hs : sumL P ≤ m) (hb : 2 * m + 3 * n ≤ 8000000) : sumA rs ≤ 8000000 := by
  rw [sumA_pals, h, Que.len_of h]; omega
theorem rng {lo : Nat} {w : World} {M c : Nat} {rs : List ARow} (h : AB lo w M c rs) : ∀ k, blks M rs k → lo ≤ k ∧ k < w.heap.size := fun k hk => ⟨blks_low h k hk, blks_high h k hk⟩
theorem row_len {lo : Nat} {w : World} {M c : Nat} {rs : List ARow} (h : AB lo w M c rs) : ∀ x ∈ rs, x.2.2.l.length ≤ 1048576 := fun x hx => (h.rows x hx).2.1
theorem tell_sum {P : List PAl} {g : Bool} {x : PAl} : sumL (tellB P g x).1 ≤ sumL P + x.l.length := by
  unfold tellB
  split
  · simp
  · split
    · simp [sumL]
    · show sumL (P ++ [x]) ≤ _; rw [sum_app]; simp [sumL]
theorem told_sum (P : List PAl) (g : Bool) (l : List PAl) : ∀ k, sumL (told P g (l.take k)).1 ≤ sumL P + sumL (l.take k)
  | 0 => by simp [told_nil, sumL]
  | k + 1 => by
    by_cases h : k < l.length
    · rw [told_up h, sum_up h]
      have h1 := tell_sum (P := (told P g (l.take k)).1) (g := (told P g (l.take k)).2) (x := nthP l k)
      have h2 := told_sum P g l k
      omega
    · rw [List.take_of_length_le (by omega : l.length ≤ k + 1), ← List.take_of_length_le (by omega : l.length ≤ k)]
      exact told_sum P g l k
theorem heard_facts {l P : List PAl} (g : Bool) (hl : FitsP l) (hP : FitsP P) : ((heardB l P g).length ≤ P.length ∨ (heardB l P g).length ≤ 3) ∧ sumL (heardB l P g) ≤ sumL P + sumL l ∧ FitsP (heardB l P g) := by
  have h1 := told_len P g l l.length
  have h2 := told_sum P g l l.length
  have h3 := told_mem P g l l.length
  rw [List.take_length] at h1 h2 h3
  unfold heardB
  split
  · exact ⟨.inr (by simp), by simp [sumL], fun i hi => by simp at hi⟩
  · refine ⟨h1, h2, fits_of fun y hy => ?_⟩
    rcases h3 y hy with h | h
    · exact fits_mem hP h
    · exact fits_mem hl h
theorem rdP {lo : Nat} {w : World} {M c : Nat} {rs : List ARow} {P : List PAl} (h : AB lo w M c rs) (hp : pals rs = P) : RdN w (some ⟨M, 0, none⟩) P := by have := h.rd; rwa [hp] at this
theorem len_m {P : List PAl} (h : LenM P) : ChnI.LenP P := ChnP.len_m h
set_option maxRecDepth 100000 in
set_option maxHeartbeats 4000000 in
theorem walk (a0 : Option Addr) (cap0 : Nat) (l0 : List PAl) (a1 : Option Addr) (cap1 : Nat) (l1 : List PAl) (b1 : Bool) (w : World) (r0 : RdA w a0 l0) (m0 : l0.length ≤ maxLen) (z0 : FitsP l0) (r1 : RdA w a1 l1) (m1 : l1.length ≤ maxLen) (z1 : FitsP l1) :
    Calls Try.prog 4 #[.slice a0 l0.length cap0, .agg #[.slice a1 l1.length cap1, .bool b1]] w fun e w' => e = .returned (.bool true) ∧ Below w.heap.size w w' := by
  have R0 : Hid (RdA w a0 l0) := r0
  have M0 : Hid (l0.length ≤ maxLen) := m0
  have F0 : Hid (FitsP l0) := z0
  clear r0 m0 z0
  have R1 : Hid (RdA w a1 l1) := r1
  have M1 : Hid (l1.length ≤ maxLen) := m1
  have F1 : Hid (FitsP l1) := z1
  clear r1 m1 z1
  have B0 : Hid (Below w.heap.size w w) := Below.refl _ _
  go_enter Try.func4, Try.ntmps4
  go_wp2_with fail
  refine (Alms.sz_any a0 cap0 l0 1048576 _ (R0.out.below (grow_on B0.out (Go.Joins.below_alloc1 w _))) M0.out F0.out (by omega) (by omega)).mono ?_
  rintro e w1 ⟨⟨k0, rfl, p0, hn⟩, hb⟩
  have P1_1 : Hid (Blk w1 w.heap.size #[.slice a1 l1.length cap1, .bool b1] 42) := (Blk.new _ _ _).grow hb
  have U_P1 : Hid (w.heap.size ≤ w.heap.size ∧ w.heap.size < w1.heap.size) := ⟨by omega, P1_1.out.lt⟩
  replace hb := grow_on (Go.Joins.below_alloc1 w _) hb
  have B1 : Hid (Below w.heap.size w w1) := grow_on B0.out hb
  have Z1 : Hid (w.heap.size ≤ w1.heap.size) := hb.size
  clear hb
  by_cases g0 : k0 < 0
  · clear hn
    go_wp2
    go_ret
    exact ⟨rfl, B1.out⟩
  have K0 : Hid (l0.length ≤ 1048576 ∧ sumL l0 ≤ 1048576 ∧ l0.length + sumL l0 ≤ 1048576) := by have := hn (by omega); exact ⟨by omega, by omega, by omega⟩
  have N0 : Hid (LenM l0) := fun q hq => Nat.le_trans (sum_nth hq) K0.out.2.1
  clear hn
  have cP10 : w1.cell? ⟨w.heap.size, 0, none⟩ = some (.slice a1 l1.length cap1) := (P1_1.out).cell 0
  have cP11 : w1.cell? ⟨w.heap.size, 1, none⟩ = some (.bool b1) := (P1_1.out).cell 1
  go_wp2_with fail
  refine (Sub.sz_any b1 a1 cap1 l1 k0 _ (R1.out.below B1.out) M1.out F1.out (by omega) (by omega)).mono ?_
  rintro e w2 ⟨⟨k1, rfl, p1, hn⟩, hb⟩
  have B2 : Hid (Below w.heap.size w w2) := grow_on B1.out hb
  have Z2 : Hid (w1.heap.size ≤ w2.heap.size) := hb.size
  have P1_2 : Hid (Blk w2 w.heap.size #[.slice a1 l1.length cap1, .bool b1] 42) := P1_1.out.grow hb
  clear hb cP10 cP11
  by_cases g1 : k1 < 0
  · clear hn
    go_wp2
    go_ret
    exact ⟨rfl, B2.out⟩
  have K1 : Hid (l1.length ≤ 1048576 ∧ sumL l1 ≤ 1048576 ∧ l1.length + sumL l1 ≤ 1048576) := by have := hn (by omega); exact ⟨by omega, by omega, by omega⟩
  have N1 : Hid (LenM l1) := fun q hq => Nat.le_trans (sum_nth hq) K1.out.2.1
  clear hn
  have hq := heard_facts b1 F0.out F1.out
  have PL : Hid ((heardB l0 l1 b1).length ≤ maxLen ∧ FitsP (heardB l0 l1 b1)) := ⟨by have h1 := hq.1; have h2 := K1.out.1; exact ChnK.len_max (by omega), hq.2.2⟩
  have PS : Hid ((heardB l0 l1 b1).length ≤ 1048576 ∧ sumL (heardB l0 l1 b1) ≤ 2097152) := by
    have h1 := hq.1
    have h2 := hq.2.1
    have h3 := K0.out
    have h4 := K1.out
    exact ⟨by omega, by omega⟩
  clear hq
  have cP10 : w2.cell? ⟨w.heap.size, 0, none⟩ = some (.slice a1 l1.length cap1) := (P1_2.out).cell 0
  have cP11 : w2.cell? ⟨w.heap.size, 1, none⟩ = some (.bool b1) := (P1_2.out).cell 1
  go_wp2
  have kz : Below w2.heap.size w2 w2.drew := (Below.refl _ _).drew
  have kP1 := P1_2.out.lt
  have HS : Hid (∀ w', Below w2.heap.size w2 w' → Below w2.heap.size w2 w' ∧ w'.cell? ⟨w.heap.size, 0, none⟩ = some (.slice a1 l1.length cap1) ∧ w'.cell? ⟨w.heap.size, 1, none⟩ = some (.bool b1)) := fun w' h => ⟨h, (h.cell kP1).trans cP10, (h.cell kP1).trans cP11⟩
  go_region_held3 (fun w' => Below w2.heap.size w2 w' ∧ w'.cell? ⟨w.heap.size, 0, none⟩ = some (.slice a1 l1.length cap1) ∧ w'.cell? ⟨w.heap.size, 1, none⟩ = some (.bool b1)) (first | with_reducible exact HS.out _ kz | with_reducible exact HS.out _ (grow_on kz hy0) | with_reducible exact HS.out _ (grow_on (grow_on kz hy0) hy1) | with_reducible exact HS.out _ (grow_on (grow_on (grow_on kz hy0) hy1) hy2) | (go_keep; done)) (first | (go_at_call 19; with_reducible refine (Alms.to_any a0 cap0 l0 _ (R0.out.below (grow_on B2.out kz)) K0.out.1 K0.out.2.1).mono ?_; rintro e wy0 ⟨rfl, ⟨cs0, g0', hC0⟩, hy0⟩) | (go_at_call 20; with_reducible refine (Sub.to_any b1 a1 cap1 l1 _ (R1.out.below (grow_on B2.out (grow_on kz hy0))) K1.out.1 K1.out.2.1).mono ?_; rintro e wy1 ⟨⟨TM, Tr, rfl, hA1, hP1⟩, hy1⟩) | (go_at_call 18; refine (specHeard_any _ _ l0 _ _ l1 b1 _ (Sub.rdN_of hC0 hy1 K0.out.1 N0.out) (rdP hA1 hP1) K0.out.1 K1.out.1 N0.out N1.out).mono ?_; rintro e w3 ⟨⟨WM, Wc, Wr, rfl, hA, hP⟩, hy2⟩))
  have hb := (grow_on (grow_on (grow_on kz hy0) hy1) hy2)
  have W_3 : Hid (AB w2.heap.size w3 WM Wc Wr) := hA.down (grow_on (grow_on kz hy0) hy1).size
  have WP : Hid (pals Wr = heardB l0 l1 b1) := hP
  have WR : Hid (∀ k, blks WM Wr k → w2.heap.size ≤ k ∧ k < w3.heap.size) := rng W_3.out
  clear hA hP
  have B3 : Hid (Below w.heap.size w w3) := grow_on B2.out hb
  have Z3 : Hid (w2.heap.size ≤ w3.heap.size) := hb.size
  have P1_3 : Hid (Blk w3 w.heap.size #[.slice a1 l1.length cap1, .bool b1] 42) := P1_2.out.grow hb
  clear hb kz HS hy0 hy1 hy2 kP1 cP10 cP11 hC0 hA1 hP1
  have cP10 : w3.cell? ⟨w.heap.size, 0, none⟩ = some (.slice a1 l1.length cap1) := (P1_3.out).cell 0
  have cP11 : w3.cell? ⟨w.heap.size, 1, none⟩ = some (.bool b1) := (P1_3.out).cell 1
  go_wp2_with fail
  refine (Alms.to_any a0 cap0 l0 _ (R0.out.below B3.out) K0.out.1 K0.out.2.1).mono ?_
  rintro e w4 ⟨rfl, ⟨cs, g', hC⟩, hb⟩
  obtain ⟨Xr, hA, hP⟩ := copy_ab (lo := w3.heap.size) hC (Nat.le_refl _) K0.out.1 N0.out
  have X_4 : Hid (AB w3.heap.size w4 w3.heap.size l0.length Xr) := hA
  have XP : Hid (pals Xr = l0) := hP
  have XR : Hid (∀ k, blks w3.heap.size Xr k → w3.heap.size ≤ k ∧ k < w4.heap.size) := rng hA
  clear hA hP hC
  have B4 : Hid (Below w.heap.size w w4) := grow_on B3.out hb
  have Z4 : Hid (w3.heap.size ≤ w4.heap.size) := hb.size
  have P1_4 : Hid (Blk w4 w.heap.size #[.slice a1 l1.length cap1, .bool b1] 42) := P1_3.out.grow hb
  have W_4 : Hid (AB w2.heap.size w4 WM Wc Wr) := W_3.out.grow hb
  clear hb cP10 cP11
  have cP10 : w4.cell? ⟨w.heap.size, 0, none⟩ = some (.slice a1 l1.length cap1) := (P1_4.out).cell 0
  have cP11 : w4.cell? ⟨w.heap.size, 1, none⟩ = some (.bool b1) := (P1_4.out).cell 1
  go_wp2_with fail
  refine (Sub.to_any b1 a1 cap1 l1 _ (R1.out.below B4.out) K1.out.1 K1.out.2.1).mono ?_
  rintro e w5 ⟨⟨YM, Yr, rfl, hA, hP⟩, hb⟩
  have Y_5 : Hid (AB w4.heap.size w5 YM l1.length Yr) := hA.down (by omega)
  have YP : Hid (pals Yr = l1) := hP
  have YR : Hid (∀ k, blks YM Yr k → w4.heap.size ≤ k ∧ k < w5.heap.size) := rng Y_5.out
  clear hA hP
  have B5 : Hid (Below w.heap.size w w5) := grow_on B4.out hb
  have Z5 : Hid (w4.heap.size ≤ w5.heap.size) := hb.size
  have P1_5 : Hid (Blk w5 w.heap.size #[.slice a1 l1.length cap1, .bool b1] 42) := P1_4.out.grow hb
  have W_5 : Hid (AB w2.heap.size w5 WM Wc Wr) := W_4.out.grow hb
  have X_5 : Hid (AB w3.heap.size w5 w3.heap.size l0.length Xr) := X_4.out.grow hb
  clear hb cP10 cP11
  have cP10 : (w5.alloc (.cells #[.slice (some ⟨YM, 0, none⟩) l1.length l1.length, .bool b1] 49)).cell? ⟨w.heap.size, 0, none⟩ = some (.slice a1 l1.length cap1) := ((P1_5.out.alloc _)).cell 0
  have cP11 : (w5.alloc (.cells #[.slice (some ⟨YM, 0, none⟩) l1.length l1.length, .bool b1] 49)).cell? ⟨w.heap.size, 1, none⟩ = some (.bool b1) := ((P1_5.out.alloc _)).cell 1
  go_wp2_with fail
  refine (implHeard_any _ _ l0 _ _ l1 b1 _ ((rdP X_5.out XP.out).rd.below (Go.Joins.below_alloc1 w5 _)) ((rdP Y_5.out YP.out).rd.below (Go.Joins.below_alloc1 w5 _)) K0.out.1 K1.out.1 N0.out N1.out).mono ?_
  rintro e w6 ⟨⟨GM, Gc, Gr, rfl, hA, hP⟩, hb⟩
  have G_6 : Hid (AB w5.heap.size w6 GM Gc Gr) := hA.down (by simp)
  have GP : Hid (pals Gr = heardB l0 l1 b1) := hP
  have GR : Hid (∀ k, blks GM Gr k → w5.heap.size < k ∧ k < w6.heap.size) := fun k hk => by have := rng hA k hk; simp at this; omega
  have GL : Hid (∀ x ∈ Gr, x.2.2.l.length ≤ 1048576) := row_len hA
  clear hA hP
  have Q1_6 : Hid (Blk w6 w5.heap.size #[.slice (some ⟨YM, 0, none⟩) l1.length l1.length, .bool b1] 49) := (Blk.new _ _ _).grow hb
  have U_Q1 : Hid (w5.heap.size ≤ w5.heap.size ∧ w5.heap.size < w6.heap.size) := ⟨by omega, Q1_6.out.lt⟩
  replace hb := grow_on (Go.Joins.below_alloc1 w5 _) hb
  have B6 : Hid (Below w.heap.size w w6) := grow_on B5.out hb
  have Z6 : Hid (w5.heap.size ≤ w6.heap.size) := hb.size
  have P1_6 : Hid (Blk w6 w.heap.size #[.slice a1 l1.length cap1, .bool b1] 42) := P1_5.out.grow hb
  have W_6 : Hid (AB w2.heap.size w6 WM Wc Wr) := W_5.out.grow hb
  have X_6 : Hid (AB w3.heap.size w6 w3.heap.size l0.length Xr) := X_5.out.grow hb
  have Y_6 : Hid (AB w4.heap.size w6 YM l1.length Yr) := Y_5.out.grow hb
  clear hb cP10 cP11
  have cP10 : w6.cell? ⟨w.heap.size, 0, none⟩ = some (.slice a1 l1.length cap1) := (P1_6.out).cell 0
  have cP11 : w6.cell? ⟨w.heap.size, 1, none⟩ = some (.bool b1) := (P1_6.out).cell 1
  have cQ10 : w6.cell? ⟨w5.heap.size, 0, none⟩ = some (.slice (some ⟨YM, 0, none⟩) l1.length l1.length) := (Q1_6.out).cell 0
  have cQ11 : w6.cell? ⟨w5.heap.size, 1, none⟩ = some (.bool b1) := (Q1_6.out).cell 1
  go_wp2_with fail
  refine (eqL_any _ _ _ _ _ _ _ _ Gr Wr _ _ G_6.out W_6.out GP.out WP.out PL.out.1 PL.out.2).mono ?_
  rintro e w7 ⟨rfl, hb⟩
  have B7 : Hid (Below w.heap.size w w7) := grow_on B6.out hb
  have Z7 : Hid (w6.heap.size ≤ w7.heap.size) := hb.size
  have P1_7 : Hid (Blk w7 w.heap.size #[.slice a1 l1.length cap1, .bool b1] 42) := P1_6.out.grow hb
  have W_7 : Hid (AB w2.heap.size w7 WM Wc Wr) := W_6.out.grow hb
  have X_7 : Hid (AB w3.heap.size w7 w3.heap.size l0.length Xr) := X_6.out.grow hb
  have Y_7 : Hid (AB w4.heap.size w7 YM l1.length Yr) := Y_6.out.grow hb
  have Q1_7 : Hid (Blk w7 w5.heap.size #[.slice (some ⟨YM, 0, none⟩) l1.length l1.length, .bool b1] 49) := Q1_6.out.grow hb
  have G_7 : Hid (AB w5.heap.size w7 GM Gc Gr) := G_6.out.grow hb
  clear hb cP10 cP11 cQ10 cQ11
  have cP10 : w7.cell? ⟨w.heap.size, 0, none⟩ = some (.slice a1 l1.length cap1) := (P1_7.out).cell 0
  have cP11 : w7.cell? ⟨w.heap.size, 1, none⟩ = some (.bool b1) := (P1_7.out).cell 1
  have cQ10 : w7.cell? ⟨w5.heap.size, 0, none⟩ = some (.slice (some ⟨YM, 0, none⟩) l1.length l1.length) := (Q1_7.out).cell 0
  have cQ11 : w7.cell? ⟨w5.heap.size, 1, none⟩ = some (.bool b1) := (Q1_7.out).cell 1
  go_wp2_with fail
  refine (Alms.to_any a0 cap0 l0 _ (R0.out.below B7.out) K0.out.1 K0.out.2.1).mono ?_
  rintro e w8 ⟨rfl, ⟨cs, g', hC⟩, hb⟩
  obtain ⟨Er, hA, hP⟩ := copy_ab (lo := w7.heap.size) hC (Nat.le_refl _) K0.out.1 N0.out
  have E_8 : Hid (AB w7.heap.size w8 w7.heap.size l0.length Er) := hA
  have EP : Hid (pals Er = l0) := hP
  have ER : Hid (∀ k, blks w7.heap.size Er k → w7.heap.size ≤ k ∧ k < w8.heap.size) := rng hA
  clear hA hP hC
  have B8 : Hid (Below w.heap.size w w8) := grow_on B7.out hb
  have Z8 : Hid (w7.heap.size ≤ w8.heap.size) := hb.size
  have P1_8 : Hid (Blk w8 w.heap.size #[.slice a1 l1.length cap1, .bool b1] 42) := P1_7.out.grow hb
  have W_8 : Hid (AB w2.heap.size w8 WM Wc Wr) := W_7.out.grow hb
  have X_8 : Hid (AB w3.heap.size w8 w3.heap.size l0.length Xr) := X_7.out.grow hb
  have Y_8 : Hid (AB w4.heap.size w8 YM l1.length Yr) := Y_7.out.grow hb
  have Q1_8 : Hid (Blk w8 w5.heap.size #[.slice (some ⟨YM, 0, none⟩) l1.length l1.length, .bool b1] 49) := Q1_7.out.grow hb
  have G_8 : Hid (AB w5.heap.size w8 GM Gc Gr) := G_7.out.grow hb
  clear hb cP10 cP11 cQ10 cQ11
  have cP10 : w8.cell? ⟨w.heap.size, 0, none⟩ = some (.slice a1 l1.length cap1) := (P1_8.out).cell 0
  have cP11 : w8.cell? ⟨w.heap.size, 1, none⟩ = some (.bool b1) := (P1_8.out).cell 1
  have cQ10 : w8.cell? ⟨w5.heap.size, 0, none⟩ = some (.slice (some ⟨YM, 0, none⟩) l1.length l1.length) := (Q1_8.out).cell 0
  have cQ11 : w8.cell? ⟨w5.heap.size, 1, none⟩ = some (.bool b1) := (Q1_8.out).cell 1
  go_wp2_with fail
  refine (Alms.eq_any _ _ _ _ l0 _ (rdP X_8.out XP.out).rd (rdP E_8.out EP.out).rd M0.out F0.out).mono ?_
  rintro e w9 ⟨rfl, hb⟩
  have B9 : Hid (Below w.heap.size w w9) := grow_on B8.out hb
  have Z9 : Hid (w8.heap.size ≤ w9.heap.size) := hb.size
  have P1_9 : Hid (Blk w9 w.heap.size #[.slice a1 l1.length cap1, .bool b1] 42) := P1_8.out.grow hb
  have W_9 : Hid (AB w2.heap.size w9 WM Wc Wr) := W_8.out.grow hb
  have X_9 : Hid (AB w3.heap.size w9 w3.heap.size l0.length Xr) := X_8.out.grow hb
  have Y_9 : Hid (AB w4.heap.size w9 YM l1.length Yr) := Y_8.out.grow hb
  have Q1_9 : Hid (Blk w9 w5.heap.size #[.slice (some ⟨YM, 0, none⟩) l1.length l1.length, .bool b1] 49) := Q1_8.out.grow hb
  have G_9 : Hid (AB w5.heap.size w9 GM Gc Gr) := G_8.out.grow hb
  have E_9 : Hid (AB w7.heap.size w9 w7.heap.size l0.length Er) := E_8.out.grow hb
  clear hb cP10 cP11 cQ10 cQ11
  have cP10 : w9.cell? ⟨w.heap.size, 0, none⟩ = some (.slice a1 l1.length cap1) := (P1_9.out).cell 0
  have cP11 : w9.cell? ⟨w.heap.size, 1, none⟩ = some (.bool b1) := (P1_9.out).cell 1
  have cQ10 : w9.cell? ⟨w5.heap.size, 0, none⟩ = some (.slice (some ⟨YM, 0, none⟩) l1.length l1.length) := (Q1_9.out).cell 0
  have cQ11 : w9.cell? ⟨w5.heap.size, 1, none⟩ = some (.bool b1) := (Q1_9.out).cell 1
  go_wp2
  have kz : Below w9.heap.size w9 w9.drew := (Below.refl _ _).drew
  have kP1 := P1_9.out.lt
  have kQ1 := Q1_9.out.lt
  have HS : Hid (∀ w', Below w9.heap.size w9 w' → Below w9.heap.size w9 w' ∧ w'.cell? ⟨w.heap.size, 0, none⟩ = some (.slice a1 l1.length cap1) ∧ w'.cell? ⟨w.heap.size, 1, none⟩ = some (.bool b1) ∧ w'.cell? ⟨w5.heap.size, 0, none⟩ = some (.slice (some ⟨YM, 0, none⟩) l1.length l1.length) ∧ w'.cell? ⟨w5.heap.size, 1, none⟩ = some (.bool b1)) := fun w' h => ⟨h, (h.cell kP1).trans cP10, (h.cell kP1).trans cP11, (h.cell kQ1).trans cQ10, (h.cell kQ1).trans cQ11⟩
  go_region_held3 (fun w' => Below w9.heap.size w9 w' ∧ w'.cell? ⟨w.heap.size, 0, none⟩ = some (.slice a1 l1.length cap1) ∧ w'.cell? ⟨w.heap.size, 1, none⟩ = some (.bool b1) ∧ w'.cell? ⟨w5.heap.size, 0, none⟩ = some (.slice (some ⟨YM, 0, none⟩) l1.length l1.length) ∧ w'.cell? ⟨w5.heap.size, 1, none⟩ = some (.bool b1)) (first | with_reducible exact HS.out _ kz | with_reducible exact HS.out _ (grow_on kz hy0) | with_reducible exact HS.out _ (grow_on (grow_on kz hy0) hy1) | (go_keep; done)) (first | (go_at_call 20; with_reducible refine (Sub.to_any b1 a1 cap1 l1 _ (R1.out.below (grow_on B9.out kz)) K1.out.1 K1.out.2.1).mono ?_; rintro e wy ⟨⟨EM, Er', rfl, hA, hP⟩, hy0⟩) | (go_at_call 23; refine (Sub.eq_any b1 _ _ _ _ l1 _ ((rdP Y_9.out YP.out).rd.below (grow_on kz hy0)) (rdP hA hP).rd M1.out F1.out).mono ?_; rintro e w10 ⟨rfl, hy1⟩))
  have hb := (grow_on (grow_on kz hy0) hy1)
  have B10 : Hid (Below w.heap.size w w10) := grow_on B9.out hb
  have Z10 : Hid (w9.heap.size ≤ w10.heap.size) := hb.size
  have P1_10 : Hid (Blk w10 w.heap.size #[.slice a1 l1.length cap1, .bool b1] 42) := P1_9.out.grow hb
  have W_10 : Hid (AB w2.heap.size w10 WM Wc Wr) := W_9.out.grow hb
  have X_10 : Hid (AB w3.heap.size w10 w3.heap.size l0.length Xr) := X_9.out.grow hb
  have Y_10 : Hid (AB w4.heap.size w10 YM l1.length Yr) := Y_9.out.grow hb
  have Q1_10 : Hid (Blk w10 w5.heap.size #[.slice (some ⟨YM, 0, none⟩) l1.length l1.length, .bool b1] 49) := Q1_9.out.grow hb
  have G_10 : Hid (AB w5.heap.size w10 GM Gc Gr) := G_9.out.grow hb
  clear hb kz HS hy0 hy1 kP1 kQ1 cP10 cP11 cQ10 cQ11 hA hP
  have XL : Hid (Xr.length = l0.length) := Que.len_of XP.out
  have YL : Hid (Yr.length = l1.length) := Que.len_of YP.out
  have XS : Hid (1 + sumA Xr ≤ 4500000 ∧ 1 + sumA Xr + sumA Yr ≤ 9000000) := by
    have h1 := sumA_pals Xr
    have h2 := sumA_pals Yr
    rw [XP.out, XL.out] at h1
    rw [YP.out, YL.out] at h2
    have h3 := K0.out
    have h4 := K1.out
    exact ⟨by omega, by omega⟩
  have hXM : Hid (Calls Try.prog 24 #[.slice (some ⟨w3.heap.size, 0, none⟩) l0.length l0.length, .int .i64 1] w10 fun e w' => e = .returned (.int .i64 ((1 + sumA Xr : Nat) : Int)) ∧ Only (blks w3.heap.size Xr) w10 w') := by
    have h := (markO_any w3.heap.size 0 1 _ l0.length Xr w10 (AB.ao X_10.out) (by rw [XL.out]; have := K0.out.1; omega) (by omega) (by have := XS.out.1; omega)).mono (fun e w' h => (⟨h.1, h.2.2⟩ : e = .returned (.int .i64 ((1 + sumA Xr : Nat) : Int)) ∧ Only (blks w3.heap.size Xr) w10 w'))
    rw [XL.out] at h
    exact h
  have cP10 : w10.cell? ⟨w.heap.size, 0, none⟩ = some (.slice a1 l1.length cap1) := (P1_10.out).cell 0
  have cP11 : w10.cell? ⟨w.heap.size, 1, none⟩ = some (.bool b1) := (P1_10.out).cell 1
  have cQ10 : w10.cell? ⟨w5.heap.size, 0, none⟩ = some (.slice (some ⟨YM, 0, none⟩) l1.length l1.length) := (Q1_10.out).cell 0
  have cQ11 : w10.cell? ⟨w5.heap.size, 1, none⟩ = some (.bool b1) := (Q1_10.out).cell 1
  go_wp2_with fail
  refine (hXM.out).mono ?_
  rintro e w11 ⟨rfl, ho⟩
  have B11 : Hid (Below w.heap.size w w11) := B10.out.trans (ho.low (fun k hk => by have hx := XR.out k hk; have hw := B3.out.size; omega) B10.out.size)
  have Z11 : Hid (w10.heap.size ≤ w11.heap.size) := ho.size
  have P1_11 : Hid (Blk w11 w.heap.size #[.slice a1 l1.length cap1, .bool b1] 42) := ho.blk P1_10.out (fun hs => by have hx := XR.out _ hs; have h0 := Z1.out; have h1 := Z2.out; have h2 := Z3.out; have h3 := Z4.out; have h4 := Z5.out; have h5 := Z6.out; have h6 := Z7.out; have h7 := Z8.out; have h8 := Z9.out; have h9 := Z10.out; have h10 := Z11.out; have h11 := U_P1.out; have h12 := U_Q1.out; omega)
  have W_11 : Hid (AB w2.heap.size w11 WM Wc Wr) := ab_only W_10.out ho (fun k hk hs => by have hx := XR.out k hs; have hy := WR.out k hk; have h0 := Z1.out; have h1 := Z2.out; have h2 := Z3.out; have h3 := Z4.out; have h4 := Z5.out; have h5 := Z6.out; have h6 := Z7.out; have h7 := Z8.out; have h8 := Z9.out; have h9 := Z10.out; have h10 := Z11.out; have h11 := U_P1.out; have h12 := U_Q1.out; omega)
  have Y_11 : Hid (AB w4.heap.size w11 YM l1.length Yr) := ab_only Y_10.out ho (fun k hk hs => by have hx := XR.out k hs; have hy := YR.out k hk; have h0 := Z1.out; have h1 := Z2.out; have h2 := Z3.out; have h3 := Z4.out; have h4 := Z5.out; have h5 := Z6.out; have h6 := Z7.out; have h7 := Z8.out; have h8 := Z9.out; have h9 := Z10.out; have h10 := Z11.out; have h11 := U_P1.out; have h12 := U_Q1.out; omega)
  have Q1_11 : Hid (Blk w11 w5.heap.size #[.slice (some ⟨YM, 0, none⟩) l1.length l1.length, .bool b1] 49) := ho.blk Q1_10.out (fun hs => by have hx := XR.out _ hs; have h0 := Z1.out; have h1 := Z2.out; have h2 := Z3.out; have h3 := Z4.out; have h4 := Z5.out; have h5 := Z6.out; have h6 := Z7.out; have h7 := Z8.out; have h8 := Z9.out; have h9 := Z10.out; have h10 := Z11.out; have h11 := U_P1.out; have h12 := U_Q1.out; omega)
  have G_11 : Hid (AB w5.heap.size w11 GM Gc Gr) := ab_only G_10.out ho (fun k hk hs => by have hx := XR.out k hs; have hy := GR.out k hk; have h0 := Z1.out; have h1 := Z2.out; have h2 := Z3.out; have h3 := Z4.out; have h4 := Z5.out; have h5 := Z6.out; have h6 := Z7.out; have h7 := Z8.out; have h8 := Z9.out; have h9 := Z10.out; have h10 := Z11.out; have h11 := U_P1.out; have h12 := U_Q1.out; omega)
  clear ho cP10 cP11 cQ10 cQ11
  have MX : Hid (1 ≤ 1 + sumA Xr ∧ 1 + sumA Xr + sumA Yr ≤ 9000000) := ⟨by omega, XS.out.2⟩
  generalize 1 + sumA Xr = m1 at MX ⊢
  have hYM : Hid (Calls Try.prog 25 #[.agg #[.slice (some ⟨YM, 0, none⟩) l1.length l1.length, .bool b1], .int .i64 (m1 : Int)] w11 fun e w' => e = .returned (.int .i64 ((m1 + sumA Yr : Nat) : Int)) ∧ Only (blks YM Yr) w11 w') := by
    have h := (Sub.mark_any b1 YM 0 m1 _ l1.length Yr w11 (AB.ao Y_11.out) (by rw [YL.out]; have := K1.out.1; omega) MX.out.1 MX.out.2).mono (fun e w' h => (⟨h.1, h.2.2⟩ : e = .returned (.int .i64 ((m1 + sumA Yr : Nat) : Int)) ∧ Only (blks YM Yr) w11 w'))
    rw [YL.out] at h
    exact h
  have cP10 : w11.cell? ⟨w.heap.size, 0, none⟩ = some (.slice a1 l1.length cap1) := (P1_11.out).cell 0
  have cP11 : w11.cell? ⟨w.heap.size, 1, none⟩ = some (.bool b1) := (P1_11.out).cell 1
  have cQ10 : w11.cell? ⟨w5.heap.size, 0, none⟩ = some (.slice (some ⟨YM, 0, none⟩) l1.length l1.length) := (Q1_11.out).cell 0
  have cQ11 : w11.cell? ⟨w5.heap.size, 1, none⟩ = some (.bool b1) := (Q1_11.out).cell 1
  go_wp2_with fail
  refine (hYM.out).mono ?_
  rintro e w12 ⟨rfl, ho⟩
  have B12 : Hid (Below w.heap.size w w12) := B11.out.trans (ho.low (fun k hk => by have hx := YR.out k hk; have hw := B4.out.size; omega) B11.out.size)
  have Z12 : Hid (w11.heap.size ≤ w12.heap.size) := ho.size
  have P1_12 : Hid (Blk w12 w.heap.size #[.slice a1 l1.length cap1, .bool b1] 42) := ho.blk P1_11.out (fun hs => by have hx := YR.out _ hs; have h0 := Z1.out; have h1 := Z2.out; have h2 := Z3.out; have h3 := Z4.out; have h4 := Z5.out; have h5 := Z6.out; have h6 := Z7.out; have h7 := Z8.out; have h8 := Z9.out; have h9 := Z10.out; have h10 := Z11.out; have h11 := Z12.out; have h12 := U_P1.out; have h13 := U_Q1.out; omega)
  have W_12 : Hid (AB w2.heap.size w12 WM Wc Wr) := ab_only W_11.out ho (fun k hk hs => by have hx := YR.out k hs; have hy := WR.out k hk; have h0 := Z1.out; have h1 := Z2.out; have h2 := Z3.out; have h3 := Z4.out; have h4 := Z5.out; have h5 := Z6.out; have h6 := Z7.out; have h7 := Z8.out; have h8 := Z9.out; have h9 := Z10.out; have h10 := Z11.out; have h11 := Z12.out; have h12 := U_P1.out; have h13 := U_Q1.out; omega)
  have G_12 : Hid (AB w5.heap.size w12 GM Gc Gr) := ab_only G_11.out ho (fun k hk hs => by have hx := YR.out k hs; have hy := GR.out k hk; have h0 := Z1.out; have h1 := Z2.out; have h2 := Z3.out; have h3 := Z4.out; have h4 := Z5.out; have h5 := Z6.out; have h6 := Z7.out; have h7 := Z8.out; have h8 := Z9.out; have h9 := Z10.out; have h10 := Z11.out; have h11 := Z12.out; have h12 := U_P1.out; have h13 := U_Q1.out; omega)
  clear ho cP10 cP11 cQ10 cQ11
  have hq : ¬ ((m1 + sumA Yr : Nat) : Int) < 0 := by omega
  generalize m1 + sumA Yr = m2 at hq ⊢
  have cP10 : w12.cell? ⟨w.heap.size, 0, none⟩ = some (.slice a1 l1.length cap1) := (P1_12.out).cell 0
  have cP11 : w12.cell? ⟨w.heap.size, 1, none⟩ = some (.bool b1) := (P1_12.out).cell 1
  go_wp2_with fail
  refine (eqL_any _ _ _ _ _ _ _ _ Gr Wr _ _ G_12.out W_12.out GP.out WP.out PL.out.1 PL.out.2).mono ?_
  rintro e w13 ⟨rfl, hb⟩
  have B13 : Hid (Below w.heap.size w w13) := grow_on B12.out hb
  have Z13 : Hid (w12.heap.size ≤ w13.heap.size) := hb.size
  have P1_13 : Hid (Blk w13 w.heap.size #[.slice a1 l1.length cap1, .bool b1] 42) := P1_12.out.grow hb
  have W_13 : Hid (AB w2.heap.size w13 WM Wc Wr) := W_12.out.grow hb
  have G_13 : Hid (AB w5.heap.size w13 GM Gc Gr) := G_12.out.grow hb
  clear hb cP10 cP11
  clear hq
  have GS : Hid (1 + sumA Gr ≤ 9000000 ∧ Gr.length ≤ 2000000) := by have := marks_le GP.out PS.out.1 PS.out.2 (by omega); have h2 := Que.len_of GP.out; have h3 := PS.out.1; exact ⟨by omega, by omega⟩
  have cP10 : w13.cell? ⟨w.heap.size, 0, none⟩ = some (.slice a1 l1.length cap1) := (P1_13.out).cell 0
  have cP11 : w13.cell? ⟨w.heap.size, 1, none⟩ = some (.bool b1) := (P1_13.out).cell 1
  go_wp2_with fail
  refine (markO_any GM 0 1 _ Gc Gr w13 (AB.ao G_13.out) GS.out.2 (by omega) GS.out.1).mono ?_
  rintro e w14 ⟨rfl, hm, ho⟩
  have B14 : Hid (Below w.heap.size w w14) := B13.out.trans (ho.low (fun k hk => by have hx := GR.out k hk; have hw := B4.out.size; have h0 := Z1.out; have h1 := Z2.out; have h2 := Z3.out; have h3 := Z4.out; have h4 := Z5.out; have h5 := Z6.out; have h6 := Z7.out; have h7 := Z8.out; have h8 := Z9.out; have h9 := Z10.out; have h10 := Z11.out; have h11 := Z12.out; have h12 := Z13.out; have h13 := U_P1.out; have h14 := U_Q1.out; omega) B13.out.size)
  have Z14 : Hid (w13.heap.size ≤ w14.heap.size) := ho.size
  have P1_14 : Hid (Blk w14 w.heap.size #[.slice a1 l1.length cap1, .bool b1] 42) := ho.blk P1_13.out (fun hs => by have hx := GR.out _ hs; have h0 := Z1.out; have h1 := Z2.out; have h2 := Z3.out; have h3 := Z4.out; have h4 := Z5.out; have h5 := Z6.out; have h6 := Z7.out; have h7 := Z8.out; have h8 := Z9.out; have h9 := Z10.out; have h10 := Z11.out; have h11 := Z12.out; have h12 := Z13.out; have h13 := Z14.out; have h14 := U_P1.out; have h15 := U_Q1.out; omega)
  have W_14 : Hid (AB w2.heap.size w14 WM Wc Wr) := ab_only W_13.out ho (fun k hk hs => by have hx := GR.out k hs; have hy := WR.out k hk; have h0 := Z1.out; have h1 := Z2.out; have h2 := Z3.out; have h3 := Z4.out; have h4 := Z5.out; have h5 := Z6.out; have h6 := Z7.out; have h7 := Z8.out; have h8 := Z9.out; have h9 := Z10.out; have h10 := Z11.out; have h11 := Z12.out; have h12 := Z13.out; have h13 := Z14.out; have h14 := U_P1.out; have h15 := U_Q1.out; omega)
  have H_14 : Hid (MO w14 GM 0 Gr 1 Gr.length) := hm
  clear hm
  clear ho cP10 cP11
  have hq : ¬ ((1 + sumA Gr : Nat) : Int) < 0 := by omega
  have cP10 : w14.cell? ⟨w.heap.size, 0, none⟩ = some (.slice a1 l1.length cap1) := (P1_14.out).cell 0
  have cP11 : w14.cell? ⟨w.heap.size, 1, none⟩ = some (.bool b1) := (P1_14.out).cell 1
  go_wp2_with fail
  refine (heldO_any GM 0 1 Gc Gr _ H_14.out GL.out GS.out.2 (by omega) GS.out.1).mono ?_
  rintro e w15 ⟨rfl, hb⟩
  have B15 : Hid (Below w.heap.size w w15) := grow_on B14.out hb
  have Z15 : Hid (w14.heap.size ≤ w15.heap.size) := hb.size
  have P1_15 : Hid (Blk w15 w.heap.size #[.slice a1 l1.length cap1, .bool b1] 42) := P1_14.out.grow hb
  have W_15 : Hid (AB w2.heap.size w15 WM Wc Wr) := W_14.out.grow hb
  have H_15 : Hid (MO w15 GM 0 Gr 1 Gr.length) := H_14.out.grow hb
  clear hb cP10 cP11
  have cP10 : w15.cell? ⟨w.heap.size, 0, none⟩ = some (.slice a1 l1.length cap1) := (P1_15.out).cell 0
  have cP11 : w15.cell? ⟨w.heap.size, 1, none⟩ = some (.bool b1) := (P1_15.out).cell 1
  go_wp2
  have kz : Below w15.heap.size w15 w15.drew := (Below.refl _ _).drew
  have kP1 := P1_15.out.lt
  have HS : Hid (∀ w', Below w15.heap.size w15 w' → Below w15.heap.size w15 w' ∧ w'.cell? ⟨w.heap.size, 0, none⟩ = some (.slice a1 l1.length cap1) ∧ w'.cell? ⟨w.heap.size, 1, none⟩ = some (.bool b1)) := fun w' h => ⟨h, (h.cell kP1).trans cP10, (h.cell kP1).trans cP11⟩
  go_region_held3 (fun w' => Below w15.heap.size w15 w' ∧ w'.cell? ⟨w.heap.size, 0, none⟩ = some (.slice a1 l1.length cap1) ∧ w'.cell? ⟨w.heap.size, 1, none⟩ = some (.bool b1)) (first | with_reducible exact HS.out _ kz | with_reducible exact HS.out _ (grow_on kz hy0) | with_reducible exact HS.out _ (grow_on (grow_on kz hy0) hy1) | with_reducible exact HS.out _ (grow_on (grow_on (grow_on kz hy0) hy1) hy2) | (go_keep; done)) (first | (go_at_call 19; with_reducible refine (Alms.to_any a0 cap0 l0 _ (R0.out.below (grow_on B15.out kz)) K0.out.1 K0.out.2.1).mono ?_; rintro e wy0 ⟨rfl, ⟨cs0, g0', hC0⟩, hy0⟩) | (go_at_call 20; with_reducible refine (Sub.to_any b1 a1 cap1 l1 _ (R1.out.below (grow_on B15.out (grow_on kz hy0))) K1.out.1 K1.out.2.1).mono ?_; rintro e wy1 ⟨⟨TM, Tr, rfl, hA1, hP1⟩, hy1⟩) | (go_at_call 21; refine (implHeard_any _ _ l0 _ _ l1 b1 _ ((CopyA.reads hC0).below hy1) ((rdP hA1 hP1).rd) K0.out.1 K1.out.1 N0.out N1.out).mono ?_; rintro e w16 ⟨⟨VM, Vc, Vr, rfl, hA, hP⟩, hy2⟩))
  have hb := (grow_on (grow_on (grow_on kz hy0) hy1) hy2)
  have V_16 : Hid (AB w15.heap.size w16 VM Vc Vr) := hA.down (grow_on (grow_on kz hy0) hy1).size
  have VP : Hid (pals Vr = heardB l0 l1 b1) := hP
  have VR : Hid (∀ k, blks VM Vr k → w15.heap.size ≤ k ∧ k < w16.heap.size) := rng V_16.out
  clear hA hP
  have B16 : Hid (Below w.heap.size w w16) := grow_on B15.out hb
  have Z16 : Hid (w15.heap.size ≤ w16.heap.size) := hb.size
  have P1_16 : Hid (Blk w16 w.heap.size #[.slice a1 l1.length cap1, .bool b1] 42) := P1_15.out.grow hb
  have W_16 : Hid (AB w2.heap.size w16 WM Wc Wr) := W_15.out.grow hb
  have H_16 : Hid (MO w16 GM 0 Gr 1 Gr.length) := H_15.out.grow hb
  clear hb kz HS hy0 hy1 hy2 kP1 cP10 cP11 hC0 hA1 hP1
  have cP10 : w16.cell? ⟨w.heap.size, 0, none⟩ = some (.slice a1 l1.length cap1) := (P1_16.out).cell 0
  have cP11 : w16.cell? ⟨w.heap.size, 1, none⟩ = some (.bool b1) := (P1_16.out).cell 1
  go_wp2_with fail
  refine (eqL_any _ _ _ _ _ _ _ _ Vr Wr _ _ V_16.out W_16.out VP.out WP.out PL.out.1 PL.out.2).mono ?_
  rintro e w17 ⟨rfl, hb⟩
  have B17 : Hid (Below w.heap.size w w17) := grow_on B16.out hb
  have Z17 : Hid (w16.heap.size ≤ w17.heap.size) := hb.size
  have P1_17 : Hid (Blk w17 w.heap.size #[.slice a1 l1.length cap1, .bool b1] 42) := P1_16.out.grow hb
  have W_17 : Hid (AB w2.heap.size w17 WM Wc Wr) := W_16.out.grow hb
  have H_17 : Hid (MO w17 GM 0 Gr 1 Gr.length) := H_16.out.grow hb
  have V_17 : Hid (AB w15.heap.size w17 VM Vc Vr) := V_16.out.grow hb
  clear hb cP10 cP11
  have hq : ¬ ((1 + sumA Gr : Nat) : Int) < 0 := by omega
  have cP10 : w17.cell? ⟨w.heap.size, 0, none⟩ = some (.slice a1 l1.length cap1) := (P1_17.out).cell 0
  have cP11 : w17.cell? ⟨w.heap.size, 1, none⟩ = some (.bool b1) := (P1_17.out).cell 1
  go_wp2_with fail
  refine (heldO_any GM 0 1 Gc Gr _ H_17.out GL.out GS.out.2 (by omega) GS.out.1).mono ?_
  rintro e w18 ⟨rfl, hb⟩
  have B18 : Hid (Below w.heap.size w w18) := grow_on B17.out hb
  have Z18 : Hid (w17.heap.size ≤ w18.heap.size) := hb.size
  have P1_18 : Hid (Blk w18 w.heap.size #[.slice a1 l1.length cap1, .bool b1] 42) := P1_17.out.grow hb
  have W_18 : Hid (AB w2.heap.size w18 WM Wc Wr) := W_17.out.grow hb
  have H_18 : Hid (MO w18 GM 0 Gr 1 Gr.length) := H_17.out.grow hb
  have V_18 : Hid (AB w15.heap.size w18 VM Vc Vr) := V_17.out.grow hb
  clear hb cP10 cP11
  have cP10 : w18.cell? ⟨w.heap.size, 0, none⟩ = some (.slice a1 l1.length cap1) := (P1_18.out).cell 0
  have cP11 : w18.cell? ⟨w.heap.size, 1, none⟩ = some (.bool b1) := (P1_18.out).cell 1
  go_wp2
  go_ret
  exact ⟨rfl, B18.out⟩
theorem own : ownKnob Try.prog.godebug = none := by kernel_rfl
theorem laidOut : laidOutB Try.prog = true := by kernel_rfl
set_option maxRecDepth 100000 in
theorem lifted (os : Os) (started : os.Started) (H : Type) (enc : TypeId × Value → H) :
    ReturnsInHanded {} Try.checked os 4 .any (Rows.fnExactHeardSpec.pre6 enc Try.prog Try.f4 Rows.fnExactHeardRow.domain false) (Rows.fnExactHeardSpec.post enc Try.prog Try.f4 false true false false) := by
  refine returnsInHanded_of_change (C := Try.checked) own started (by kernel_rfl) Try.func4
    (ChangeSpec.witness6 (enc := enc) (C := Try.checked) false ⟨#[], #[.slice none 0 0, .agg #[.slice none 0 0, .bool false]], []⟩ 8 (by kernel_rfl) (by kernel_rfl) (by kernel_rfl) (by kernel_rfl)) ?_
  intro W base args ds gs before hval0 hW hcnd _
  have hval : ∀ (j : Nat) t v, Try.f4.params[j]? = some t → args[j]? = some v → Value.okWide Try.prog W .any base t v := hval0
  have hW' := hW
  obtain ⟨p, q, hA0, hV, rfl, hfz, hnd⟩ := hW
  have hA : DataW.TrodAll enc Try.prog W 0 (fun _ => true) true Try.f4.params.toList args.toList ds p := hA0
  rw [Try.params4] at hA hval
  obtain ⟨v0, vs0, d0, ds0, p0, q0, hargs, rfl, rfl, h0, r0⟩ := trodAll_cons hA
  obtain ⟨v1, vs1, d1, ds1, p1, q1, rfl, rfl, rfl, h1, r1⟩ := trodAll_cons r0
  obtain ⟨rfl, rfl, rfl⟩ := trodAll_nil r1
  obtain rfl : args = #[v0, v1] := by cases args; simp_all
  obtain ⟨rfl, rfl⟩ := trodVars_none hV
  obtain ⟨a0, len0, cap0, rfl⟩ := okWide_slice Try.underlying40 (hval 0 40 v0 rfl rfl)
  have k0 := h0
  have lt0 : ∀ x ∈ p0, x.block < W.heap.size := by obtain ⟨m, hm⟩ := k0; exact DataW.trod_lt m _ _ _ hm
  obtain ⟨l0, rfl, w0, m0, f0⟩ := Go.Proofs.Ytdmhccheaemkkab.Alms.open_alarms h0
  have k1 := h1
  have lt1 : ∀ x ∈ p1, x.block < W.heap.size := by obtain ⟨m, hm⟩ := k1; exact DataW.trod_lt m _ _ _ hm
  obtain ⟨a1, cap1, l1, b1, rfl, w1, m1, z1⟩ := Go.Proofs.Ytdmhccheaemkkab.Sub.open_sub (hval 1 42 v1 rfl rfl) h1
  clear hA0 hval0
  refine (walk a0 cap0 l0 a1 cap1 l1 b1 W w0 m0 f0 w1 m1 z1).mono fun e W' ⟨he, bel⟩ => ?_
  subst he
  exact ⟨_, rfl, _, _, _, [], _, [], hW', trodAll_mk1 (shut_bool Try.underlying4 _), (trodAll_cons_mk (Below.trod laidOut (by kernel_rfl) (of_decide_eq_true (by kernel_rfl)) k0 bel lt0) (trodAll_cons_mk (Below.trod laidOut (by kernel_rfl) (of_decide_eq_true (by kernel_rfl)) k1 bel lt1) trodAll_mk0)), rfl, bel.frame _, fun h => by cases h⟩

theorem over : Rows.fnExactHeardRow.holds Try.pinned (OpenSpec.ofChange Rows.fnExactHeardSpec) :=
  OpenClaim.holds_of_wide 4 Try.f4 rfl rfl rfl rfl rfl rfl rfl ⟨rfl, rfl, rfl, rfl, rfl⟩ rfl rfl rfl rfl rfl (by kernel_rfl) Try.func4 (by kernel_rfl)
    (of_decide_eq_true (by kernel_rfl)) (by unfold Func.isWrapper; first | (rw [if_pos (by decide +kernel)]; kernel_rfl) | (rw [if_neg (by decide +kernel)]; exact ⟨rfl, rfl⟩))
    (fun os started H enc _ => lifted os started H enc)

end Go.Proofs.Ytdmhccheaemkkab.FnExactHeard
namespace Go.Proofs.Ytdmhccheaemkkab
theorem fnExactHeard_holds : Rows.FnExactHeardSaid := FnExactHeard.over
#print axioms fnExactHeard_holds
end Go.Proofs.Ytdmhccheaemkkab
