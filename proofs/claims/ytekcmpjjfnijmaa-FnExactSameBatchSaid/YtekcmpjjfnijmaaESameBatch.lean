/-
  PROVED: at every two of them impl.SameBatch answers as spec.SameBatch and leaves them as they were, so the law laws.FnExactSameBatch returns true, whatever its arguments. No condition.
-/
import Derived.Test.YtekcmpjjfnijmaaRows
import Derived.WalkKit
import Derived.ProofKit
import Derived.OpenShut
import Derived.ShutString
import Derived.ChangeOld
import Derived.Below
import Derived.WalkLawsBesides
import Derived.WalkSpells
import Derived.Test.YtekcmpjjfnijmaaGrpI
import Derived.Test.YtekcmpjjfnijmaaMark
import Derived.Deep.RegionHeld3
namespace Go.Proofs.Ytekcmpjjfnijmaa.FnExactSameBatch
open Go.ChangeShapes Go.WideShapes Go.ChangeAt Go.RowKit
open Go.ChangeMaps (open_string shut_string)
set_option linter.unusedVariables false

open Go.Proofs.Ytekcmpjjfnijmaa.Labs Go.Proofs.Ytekcmpjjfnijmaa.LabS Go.Proofs.Ytekcmpjjfnijmaa.Over Go.Proofs.Ytekcmpjjfnijmaa.Blk Go.Proofs.Ytekcmpjjfnijmaa.Alms Go.Proofs.Ytekcmpjjfnijmaa.Rws Go.Proofs.Ytekcmpjjfnijmaa.ChnC Go.Proofs.Ytekcmpjjfnijmaa.ChnK Go.Proofs.Ytekcmpjjfnijmaa.Grp
open Go.Proofs.Ytekcmpjjfnijmaa.Alm (AlIn)
open Go.Proofs.Ytekcmpjjfnijmaa.Pro (RdS)
open Go.Proofs.Ytekcmpjjfnijmaa.StrT (FitsS heldS_reads HeldS)
open Go.Proofs.Ytekcmpjjfnijmaa.LabT (held_reads Fits)
theorem rdP {lo : Nat} {w : World} {K M o : Nat} {key : List Lab} {rs : List ARow} {P : List PAl} (h : GB lo w K key M o rs) (hp : pals rs = P) : RdN w (some ⟨M, o, none⟩) P := by have := h.row.rd; rwa [hp] at this
theorem len_m {P : List PAl} (h : LenM P) : ChnI.LenP P := ChnP.len_m h
theorem len_of {rs : List ARow} {P : List PAl} (h : pals rs = P) : rs.length = P.length := by rw [← h, pals_len]
set_option maxRecDepth 100000 in
set_option maxHeartbeats 8000000 in
theorem walk (n0 b0 : Int) (ka0 : Option Addr) (kc0 : Nat) (key0 : List Lab) (a0 : Option Addr) (cap0 : Nat) (l0 : List PAl) (n1 b1 : Int) (ka1 : Option Addr) (kc1 : Nat) (key1 : List Lab) (a1 : Option Addr) (cap1 : Nat) (l1 : List PAl) (w : World) (u0 : Reads w ka0 key0) (q0 : key0.length ≤ maxLen) (y0 : Fits key0) (r0 : RdA w a0 l0) (m0 : l0.length ≤ maxLen) (z0 : FitsP l0) (u1 : Reads w ka1 key1) (q1 : key1.length ≤ maxLen) (y1 : Fits key1) (r1 : RdA w a1 l1) (m1 : l1.length ≤ maxLen) (z1 : FitsP l1) :
    Calls Try.prog 6 #[.agg #[.int .i64 n0, .slice ka0 key0.length kc0, .int .i64 b0, .slice a0 l0.length cap0], .agg #[.int .i64 n1, .slice ka1 key1.length kc1, .int .i64 b1, .slice a1 l1.length cap1]] w fun e w' => e = .returned (.bool true) ∧ Below w.heap.size w w' := by
  have U0 : Hid (Reads w ka0 key0) := u0
  have Q0k : Hid (key0.length ≤ maxLen ∧ Fits key0) := ⟨q0, y0⟩
  have R0 : Hid (RdA w a0 l0) := r0
  have M0 : Hid (l0.length ≤ maxLen) := m0
  have F0 : Hid (FitsP l0) := z0
  clear u0 q0 y0 r0 m0 z0
  have U1 : Hid (Reads w ka1 key1) := u1
  have Q1k : Hid (key1.length ≤ maxLen ∧ Fits key1) := ⟨q1, y1⟩
  have R1 : Hid (RdA w a1 l1) := r1
  have M1 : Hid (l1.length ≤ maxLen) := m1
  have F1 : Hid (FitsP l1) := z1
  clear u1 q1 y1 r1 m1 z1
  have B0 : Hid (Below w.heap.size w w) := Below.refl _ _
  go_enter Try.func6, Try.ntmps6
  go_wp2_with fail
  refine (Grp.szBatch_any n0 b0 ka0 kc0 key0 a0 cap0 l0 1048576 _ (U0.out.below (grow_on B0.out (Go.Joins.below_alloc2 w _ _))) Q0k.out.1 Q0k.out.2 (R0.out.below (grow_on B0.out (Go.Joins.below_alloc2 w _ _))) M0.out F0.out (by omega) (by omega)).mono ?_
  rintro e w1 ⟨⟨k0, rfl, p0, hn⟩, hb⟩
  have P0_1 : Hid (Blk w1 w.heap.size #[.int .i64 n0, .slice ka0 key0.length kc0, .int .i64 b0, .slice a0 l0.length cap0] 67) := ((Blk.new _ _ _).alloc _).grow hb
  have U_P0 : Hid (w.heap.size ≤ w.heap.size ∧ w.heap.size < w1.heap.size) := ⟨by omega, P0_1.out.lt⟩
  have P1_1 : Hid (Blk w1 (w.heap.size + 1) #[.int .i64 n1, .slice ka1 key1.length kc1, .int .i64 b1, .slice a1 l1.length cap1] 67) := (Blk.new_at (by simp)).grow hb
  have U_P1 : Hid (w.heap.size ≤ (w.heap.size + 1) ∧ (w.heap.size + 1) < w1.heap.size) := ⟨by omega, P1_1.out.lt⟩
  replace hb := grow_on (Go.Joins.below_alloc2 w _ _) hb
  have B1 : Hid (Below w.heap.size w w1) := grow_on B0.out hb
  have Z1 : Hid (w.heap.size ≤ w1.heap.size) := hb.size
  clear hb
  by_cases g0 : k0 < 0
  · clear hn
    go_wp2
    go_ret
    exact ⟨rfl, B1.out⟩
  have K0 : Hid (key0.length ≤ 1048576 ∧ l0.length ≤ 1048576 ∧ sumL l0 ≤ 1048576 ∧ key0.length + l0.length + sumL l0 ≤ 1048576) := by have := hn (by omega); exact ⟨by omega, by omega, by omega, by omega⟩
  have N0 : Hid (LenM l0) := fun q hq => Nat.le_trans (sum_nth hq) K0.out.2.2.1
  clear hn
  have cP00 : w1.cell? ⟨w.heap.size, 0, none⟩ = some (.int .i64 n0) := (P0_1.out).cell 0
  have cP01 : w1.cell? ⟨w.heap.size, 1, none⟩ = some (.slice ka0 key0.length kc0) := (P0_1.out).cell 1
  have cP02 : w1.cell? ⟨w.heap.size, 2, none⟩ = some (.int .i64 b0) := (P0_1.out).cell 2
  have cP03 : w1.cell? ⟨w.heap.size, 3, none⟩ = some (.slice a0 l0.length cap0) := (P0_1.out).cell 3
  have cP10 : w1.cell? ⟨(w.heap.size + 1), 0, none⟩ = some (.int .i64 n1) := (P1_1.out).cell 0
  have cP11 : w1.cell? ⟨(w.heap.size + 1), 1, none⟩ = some (.slice ka1 key1.length kc1) := (P1_1.out).cell 1
  have cP12 : w1.cell? ⟨(w.heap.size + 1), 2, none⟩ = some (.int .i64 b1) := (P1_1.out).cell 2
  have cP13 : w1.cell? ⟨(w.heap.size + 1), 3, none⟩ = some (.slice a1 l1.length cap1) := (P1_1.out).cell 3
  go_wp2_with fail
  refine (Grp.szBatch_any n1 b1 ka1 kc1 key1 a1 cap1 l1 k0 _ (U1.out.below B1.out) Q1k.out.1 Q1k.out.2 (R1.out.below B1.out) M1.out F1.out (by omega) (by omega)).mono ?_
  rintro e w2 ⟨⟨k1, rfl, p1, hn⟩, hb⟩
  have B2 : Hid (Below w.heap.size w w2) := grow_on B1.out hb
  have Z2 : Hid (w1.heap.size ≤ w2.heap.size) := hb.size
  have P0_2 : Hid (Blk w2 w.heap.size #[.int .i64 n0, .slice ka0 key0.length kc0, .int .i64 b0, .slice a0 l0.length cap0] 67) := P0_1.out.grow hb
  have P1_2 : Hid (Blk w2 (w.heap.size + 1) #[.int .i64 n1, .slice ka1 key1.length kc1, .int .i64 b1, .slice a1 l1.length cap1] 67) := P1_1.out.grow hb
  clear hb cP00 cP01 cP02 cP03 cP10 cP11 cP12 cP13
  by_cases g1 : k1 < 0
  · clear hn
    go_wp2
    go_ret
    exact ⟨rfl, B2.out⟩
  have K1 : Hid (key1.length ≤ 1048576 ∧ l1.length ≤ 1048576 ∧ sumL l1 ≤ 1048576 ∧ key1.length + l1.length + sumL l1 ≤ 1048576) := by have := hn (by omega); exact ⟨by omega, by omega, by omega, by omega⟩
  have N1 : Hid (LenM l1) := fun q hq => Nat.le_trans (sum_nth hq) K1.out.2.2.1
  clear hn
  have cP00 : w2.cell? ⟨w.heap.size, 0, none⟩ = some (.int .i64 n0) := (P0_2.out).cell 0
  have cP01 : w2.cell? ⟨w.heap.size, 1, none⟩ = some (.slice ka0 key0.length kc0) := (P0_2.out).cell 1
  have cP02 : w2.cell? ⟨w.heap.size, 2, none⟩ = some (.int .i64 b0) := (P0_2.out).cell 2
  have cP03 : w2.cell? ⟨w.heap.size, 3, none⟩ = some (.slice a0 l0.length cap0) := (P0_2.out).cell 3
  have cP10 : w2.cell? ⟨(w.heap.size + 1), 0, none⟩ = some (.int .i64 n1) := (P1_2.out).cell 0
  have cP11 : w2.cell? ⟨(w.heap.size + 1), 1, none⟩ = some (.slice ka1 key1.length kc1) := (P1_2.out).cell 1
  have cP12 : w2.cell? ⟨(w.heap.size + 1), 2, none⟩ = some (.int .i64 b1) := (P1_2.out).cell 2
  have cP13 : w2.cell? ⟨(w.heap.size + 1), 3, none⟩ = some (.slice a1 l1.length cap1) := (P1_2.out).cell 3
  go_wp2
  have kz : Below w2.heap.size w2 w2.drew := (Below.refl _ _).drew
  have kP0 := P0_2.out.lt
  have kP1 := P1_2.out.lt
  have HS : Hid (∀ w', Below w2.heap.size w2 w' → Below w2.heap.size w2 w' ∧ w'.cell? ⟨w.heap.size, 0, none⟩ = some (.int .i64 n0) ∧ w'.cell? ⟨w.heap.size, 1, none⟩ = some (.slice ka0 key0.length kc0) ∧ w'.cell? ⟨w.heap.size, 2, none⟩ = some (.int .i64 b0) ∧ w'.cell? ⟨w.heap.size, 3, none⟩ = some (.slice a0 l0.length cap0) ∧ w'.cell? ⟨(w.heap.size + 1), 0, none⟩ = some (.int .i64 n1) ∧ w'.cell? ⟨(w.heap.size + 1), 1, none⟩ = some (.slice ka1 key1.length kc1) ∧ w'.cell? ⟨(w.heap.size + 1), 2, none⟩ = some (.int .i64 b1) ∧ w'.cell? ⟨(w.heap.size + 1), 3, none⟩ = some (.slice a1 l1.length cap1)) := fun w' h => ⟨h, (h.cell kP0).trans cP00, (h.cell kP0).trans cP01, (h.cell kP0).trans cP02, (h.cell kP0).trans cP03, (h.cell kP1).trans cP10, (h.cell kP1).trans cP11, (h.cell kP1).trans cP12, (h.cell kP1).trans cP13⟩
  go_region_held3 (fun w' => Below w2.heap.size w2 w' ∧ w'.cell? ⟨w.heap.size, 0, none⟩ = some (.int .i64 n0) ∧ w'.cell? ⟨w.heap.size, 1, none⟩ = some (.slice ka0 key0.length kc0) ∧ w'.cell? ⟨w.heap.size, 2, none⟩ = some (.int .i64 b0) ∧ w'.cell? ⟨w.heap.size, 3, none⟩ = some (.slice a0 l0.length cap0) ∧ w'.cell? ⟨(w.heap.size + 1), 0, none⟩ = some (.int .i64 n1) ∧ w'.cell? ⟨(w.heap.size + 1), 1, none⟩ = some (.slice ka1 key1.length kc1) ∧ w'.cell? ⟨(w.heap.size + 1), 2, none⟩ = some (.int .i64 b1) ∧ w'.cell? ⟨(w.heap.size + 1), 3, none⟩ = some (.slice a1 l1.length cap1)) (first | with_reducible exact HS.out _ kz | with_reducible exact HS.out _ (grow_on kz hy0) | with_reducible exact HS.out _ (grow_on (grow_on kz hy0) hy1) | with_reducible exact HS.out _ (grow_on (grow_on (grow_on kz hy0) hy1) hy2) | (go_keep; done)) (first | (go_at_call 38; with_reducible refine (Grp.toBatch_any n0 b0 ka0 kc0 key0 a0 cap0 l0 _ (U0.out.below (grow_on B2.out kz)) K0.out.1 (R0.out.below (grow_on B2.out kz)) K0.out.2.1 K0.out.2.2.1).mono ?_; rintro e wy0 ⟨⟨Y0K, Y0M, Y0r, rfl, hG0, hA0, hP0⟩, hy0⟩) | (go_at_call 38; with_reducible refine (Grp.toBatch_any n1 b1 ka1 kc1 key1 a1 cap1 l1 _ (U1.out.below (grow_on B2.out (grow_on kz hy0))) K1.out.1 (R1.out.below (grow_on B2.out (grow_on kz hy0))) K1.out.2.1 K1.out.2.2.1).mono ?_; rintro e wy1 ⟨⟨Y1K, Y1M, Y1r, rfl, hG1, hA1, hP1⟩, hy1⟩) | (go_at_call 25; refine (GrpO.specSameB_any n0 b0 n1 b1 _ _ _ _ key0 key1 _ _ _ _ l0 l1 _ (hG0.key.rd.below hy1) hG1.key.rd Q0k.out.1 Q1k.out.1 ((rdP hG0 hP0).rd.below hy1) (rdP hG1 hP1).rd K0.out.2.1 K1.out.2.1 (len_m N0.out) (len_m N1.out)).mono ?_; rintro e w3 ⟨rfl, hy2⟩))
  have hb := (grow_on (grow_on (grow_on kz hy0) hy1) hy2)
  have B3 : Hid (Below w.heap.size w w3) := grow_on B2.out hb
  have Z3 : Hid (w2.heap.size ≤ w3.heap.size) := hb.size
  have P0_3 : Hid (Blk w3 w.heap.size #[.int .i64 n0, .slice ka0 key0.length kc0, .int .i64 b0, .slice a0 l0.length cap0] 67) := P0_2.out.grow hb
  have P1_3 : Hid (Blk w3 (w.heap.size + 1) #[.int .i64 n1, .slice ka1 key1.length kc1, .int .i64 b1, .slice a1 l1.length cap1] 67) := P1_2.out.grow hb
  clear hb kz HS hy0 hy1 hy2 kP0 kP1 cP00 cP01 cP02 cP03 cP10 cP11 cP12 cP13 hG0 hG1 hA0 hA1 hP0 hP1
  have cP00 : w3.cell? ⟨w.heap.size, 0, none⟩ = some (.int .i64 n0) := (P0_3.out).cell 0
  have cP01 : w3.cell? ⟨w.heap.size, 1, none⟩ = some (.slice ka0 key0.length kc0) := (P0_3.out).cell 1
  have cP02 : w3.cell? ⟨w.heap.size, 2, none⟩ = some (.int .i64 b0) := (P0_3.out).cell 2
  have cP03 : w3.cell? ⟨w.heap.size, 3, none⟩ = some (.slice a0 l0.length cap0) := (P0_3.out).cell 3
  have cP10 : w3.cell? ⟨(w.heap.size + 1), 0, none⟩ = some (.int .i64 n1) := (P1_3.out).cell 0
  have cP11 : w3.cell? ⟨(w.heap.size + 1), 1, none⟩ = some (.slice ka1 key1.length kc1) := (P1_3.out).cell 1
  have cP12 : w3.cell? ⟨(w.heap.size + 1), 2, none⟩ = some (.int .i64 b1) := (P1_3.out).cell 2
  have cP13 : w3.cell? ⟨(w.heap.size + 1), 3, none⟩ = some (.slice a1 l1.length cap1) := (P1_3.out).cell 3
  go_wp2_with fail
  refine (Grp.toBatch_any n0 b0 ka0 kc0 key0 a0 cap0 l0 _ (U0.out.below B3.out) K0.out.1 (R0.out.below B3.out) K0.out.2.1 K0.out.2.2.1).mono ?_
  rintro e w4 ⟨⟨XK, XM, Xr, rfl, hG, hA, hP⟩, hb⟩
  have X_4 : Hid (GB w3.heap.size w4 XK key0 XM 0 Xr) := hG.down (by first | omega | (simp; omega))
  have XP : Hid (pals Xr = l0) := hP
  have XR : Hid (∀ k, gblks XK XM Xr k → w3.heap.size + 2 < k ∧ k < w4.heap.size) := fun k hk => by have := hG.rng k hk; (try simp at this); omega
  have XL : Hid (∀ x ∈ Xr, x.2.2.l.length ≤ 1048576) := hG.len
  clear hG hA hP
  have B4 : Hid (Below w.heap.size w w4) := grow_on B3.out hb
  have Z4 : Hid (w3.heap.size ≤ w4.heap.size) := hb.size
  have P0_4 : Hid (Blk w4 w.heap.size #[.int .i64 n0, .slice ka0 key0.length kc0, .int .i64 b0, .slice a0 l0.length cap0] 67) := P0_3.out.grow hb
  have P1_4 : Hid (Blk w4 (w.heap.size + 1) #[.int .i64 n1, .slice ka1 key1.length kc1, .int .i64 b1, .slice a1 l1.length cap1] 67) := P1_3.out.grow hb
  clear hb cP00 cP01 cP02 cP03 cP10 cP11 cP12 cP13
  have cP00 : (w4.alloc (.cells #[.int .i64 n0, .slice (some ⟨XK, 0, none⟩) key0.length key0.length, .int .i64 b0, .slice (some ⟨XM, 0, none⟩) l0.length l0.length] 36)).cell? ⟨w.heap.size, 0, none⟩ = some (.int .i64 n0) := ((P0_4.out.alloc _)).cell 0
  have cP01 : (w4.alloc (.cells #[.int .i64 n0, .slice (some ⟨XK, 0, none⟩) key0.length key0.length, .int .i64 b0, .slice (some ⟨XM, 0, none⟩) l0.length l0.length] 36)).cell? ⟨w.heap.size, 1, none⟩ = some (.slice ka0 key0.length kc0) := ((P0_4.out.alloc _)).cell 1
  have cP02 : (w4.alloc (.cells #[.int .i64 n0, .slice (some ⟨XK, 0, none⟩) key0.length key0.length, .int .i64 b0, .slice (some ⟨XM, 0, none⟩) l0.length l0.length] 36)).cell? ⟨w.heap.size, 2, none⟩ = some (.int .i64 b0) := ((P0_4.out.alloc _)).cell 2
  have cP03 : (w4.alloc (.cells #[.int .i64 n0, .slice (some ⟨XK, 0, none⟩) key0.length key0.length, .int .i64 b0, .slice (some ⟨XM, 0, none⟩) l0.length l0.length] 36)).cell? ⟨w.heap.size, 3, none⟩ = some (.slice a0 l0.length cap0) := ((P0_4.out.alloc _)).cell 3
  have cP10 : (w4.alloc (.cells #[.int .i64 n0, .slice (some ⟨XK, 0, none⟩) key0.length key0.length, .int .i64 b0, .slice (some ⟨XM, 0, none⟩) l0.length l0.length] 36)).cell? ⟨(w.heap.size + 1), 0, none⟩ = some (.int .i64 n1) := ((P1_4.out.alloc _)).cell 0
  have cP11 : (w4.alloc (.cells #[.int .i64 n0, .slice (some ⟨XK, 0, none⟩) key0.length key0.length, .int .i64 b0, .slice (some ⟨XM, 0, none⟩) l0.length l0.length] 36)).cell? ⟨(w.heap.size + 1), 1, none⟩ = some (.slice ka1 key1.length kc1) := ((P1_4.out.alloc _)).cell 1
  have cP12 : (w4.alloc (.cells #[.int .i64 n0, .slice (some ⟨XK, 0, none⟩) key0.length key0.length, .int .i64 b0, .slice (some ⟨XM, 0, none⟩) l0.length l0.length] 36)).cell? ⟨(w.heap.size + 1), 2, none⟩ = some (.int .i64 b1) := ((P1_4.out.alloc _)).cell 2
  have cP13 : (w4.alloc (.cells #[.int .i64 n0, .slice (some ⟨XK, 0, none⟩) key0.length key0.length, .int .i64 b0, .slice (some ⟨XM, 0, none⟩) l0.length l0.length] 36)).cell? ⟨(w.heap.size + 1), 3, none⟩ = some (.slice a1 l1.length cap1) := ((P1_4.out.alloc _)).cell 3
  go_wp2_with fail
  refine (Grp.toBatch_any n1 b1 ka1 kc1 key1 a1 cap1 l1 _ (U1.out.below (grow_on B4.out (Go.Joins.below_alloc1 w4 _))) K1.out.1 (R1.out.below (grow_on B4.out (Go.Joins.below_alloc1 w4 _))) K1.out.2.1 K1.out.2.2.1).mono ?_
  rintro e w5 ⟨⟨YK, YM, Yr, rfl, hG, hA, hP⟩, hb⟩
  have Y_5 : Hid (GB w4.heap.size w5 YK key1 YM 0 Yr) := hG.down (by first | omega | (simp; omega))
  have YP : Hid (pals Yr = l1) := hP
  have YR : Hid (∀ k, gblks YK YM Yr k → w4.heap.size + 3 < k ∧ k < w5.heap.size) := fun k hk => by have := hG.rng k hk; (try simp at this); omega
  have YL : Hid (∀ x ∈ Yr, x.2.2.l.length ≤ 1048576) := hG.len
  clear hG hA hP
  have Q0_5 : Hid (Blk w5 w4.heap.size #[.int .i64 n0, .slice (some ⟨XK, 0, none⟩) key0.length key0.length, .int .i64 b0, .slice (some ⟨XM, 0, none⟩) l0.length l0.length] 36) := (Blk.new _ _ _).grow hb
  have U_Q0 : Hid (w4.heap.size ≤ w4.heap.size ∧ w4.heap.size < w5.heap.size) := ⟨by omega, Q0_5.out.lt⟩
  replace hb := grow_on (Go.Joins.below_alloc1 w4 _) hb
  have B5 : Hid (Below w.heap.size w w5) := grow_on B4.out hb
  have Z5 : Hid (w4.heap.size ≤ w5.heap.size) := hb.size
  have P0_5 : Hid (Blk w5 w.heap.size #[.int .i64 n0, .slice ka0 key0.length kc0, .int .i64 b0, .slice a0 l0.length cap0] 67) := P0_4.out.grow hb
  have P1_5 : Hid (Blk w5 (w.heap.size + 1) #[.int .i64 n1, .slice ka1 key1.length kc1, .int .i64 b1, .slice a1 l1.length cap1] 67) := P1_4.out.grow hb
  have X_5 : Hid (GB w3.heap.size w5 XK key0 XM 0 Xr) := X_4.out.grow hb
  clear hb cP00 cP01 cP02 cP03 cP10 cP11 cP12 cP13
  have cP00 : (w5.alloc (.cells #[.int .i64 n1, .slice (some ⟨YK, 0, none⟩) key1.length key1.length, .int .i64 b1, .slice (some ⟨YM, 0, none⟩) l1.length l1.length] 36)).cell? ⟨w.heap.size, 0, none⟩ = some (.int .i64 n0) := ((P0_5.out.alloc _)).cell 0
  have cP01 : (w5.alloc (.cells #[.int .i64 n1, .slice (some ⟨YK, 0, none⟩) key1.length key1.length, .int .i64 b1, .slice (some ⟨YM, 0, none⟩) l1.length l1.length] 36)).cell? ⟨w.heap.size, 1, none⟩ = some (.slice ka0 key0.length kc0) := ((P0_5.out.alloc _)).cell 1
  have cP02 : (w5.alloc (.cells #[.int .i64 n1, .slice (some ⟨YK, 0, none⟩) key1.length key1.length, .int .i64 b1, .slice (some ⟨YM, 0, none⟩) l1.length l1.length] 36)).cell? ⟨w.heap.size, 2, none⟩ = some (.int .i64 b0) := ((P0_5.out.alloc _)).cell 2
  have cP03 : (w5.alloc (.cells #[.int .i64 n1, .slice (some ⟨YK, 0, none⟩) key1.length key1.length, .int .i64 b1, .slice (some ⟨YM, 0, none⟩) l1.length l1.length] 36)).cell? ⟨w.heap.size, 3, none⟩ = some (.slice a0 l0.length cap0) := ((P0_5.out.alloc _)).cell 3
  have cP10 : (w5.alloc (.cells #[.int .i64 n1, .slice (some ⟨YK, 0, none⟩) key1.length key1.length, .int .i64 b1, .slice (some ⟨YM, 0, none⟩) l1.length l1.length] 36)).cell? ⟨(w.heap.size + 1), 0, none⟩ = some (.int .i64 n1) := ((P1_5.out.alloc _)).cell 0
  have cP11 : (w5.alloc (.cells #[.int .i64 n1, .slice (some ⟨YK, 0, none⟩) key1.length key1.length, .int .i64 b1, .slice (some ⟨YM, 0, none⟩) l1.length l1.length] 36)).cell? ⟨(w.heap.size + 1), 1, none⟩ = some (.slice ka1 key1.length kc1) := ((P1_5.out.alloc _)).cell 1
  have cP12 : (w5.alloc (.cells #[.int .i64 n1, .slice (some ⟨YK, 0, none⟩) key1.length key1.length, .int .i64 b1, .slice (some ⟨YM, 0, none⟩) l1.length l1.length] 36)).cell? ⟨(w.heap.size + 1), 2, none⟩ = some (.int .i64 b1) := ((P1_5.out.alloc _)).cell 2
  have cP13 : (w5.alloc (.cells #[.int .i64 n1, .slice (some ⟨YK, 0, none⟩) key1.length key1.length, .int .i64 b1, .slice (some ⟨YM, 0, none⟩) l1.length l1.length] 36)).cell? ⟨(w.heap.size + 1), 3, none⟩ = some (.slice a1 l1.length cap1) := ((P1_5.out.alloc _)).cell 3
  have cQ00 : (w5.alloc (.cells #[.int .i64 n1, .slice (some ⟨YK, 0, none⟩) key1.length key1.length, .int .i64 b1, .slice (some ⟨YM, 0, none⟩) l1.length l1.length] 36)).cell? ⟨w4.heap.size, 0, none⟩ = some (.int .i64 n0) := ((Q0_5.out.alloc _)).cell 0
  have cQ01 : (w5.alloc (.cells #[.int .i64 n1, .slice (some ⟨YK, 0, none⟩) key1.length key1.length, .int .i64 b1, .slice (some ⟨YM, 0, none⟩) l1.length l1.length] 36)).cell? ⟨w4.heap.size, 1, none⟩ = some (.slice (some ⟨XK, 0, none⟩) key0.length key0.length) := ((Q0_5.out.alloc _)).cell 1
  have cQ02 : (w5.alloc (.cells #[.int .i64 n1, .slice (some ⟨YK, 0, none⟩) key1.length key1.length, .int .i64 b1, .slice (some ⟨YM, 0, none⟩) l1.length l1.length] 36)).cell? ⟨w4.heap.size, 2, none⟩ = some (.int .i64 b0) := ((Q0_5.out.alloc _)).cell 2
  have cQ03 : (w5.alloc (.cells #[.int .i64 n1, .slice (some ⟨YK, 0, none⟩) key1.length key1.length, .int .i64 b1, .slice (some ⟨YM, 0, none⟩) l1.length l1.length] 36)).cell? ⟨w4.heap.size, 3, none⟩ = some (.slice (some ⟨XM, 0, none⟩) l0.length l0.length) := ((Q0_5.out.alloc _)).cell 3
  go_wp2_with fail
  refine (GrpI.implSameB_any n0 b0 n1 b1 _ _ _ _ key0 key1 _ _ _ _ l0 l1 _ (X_5.out.key.rd.below (Go.Joins.below_alloc1 w5 _)) (Y_5.out.key.rd.below (Go.Joins.below_alloc1 w5 _)) Q0k.out.1 Q1k.out.1 ((rdP X_5.out XP.out).rd.below (Go.Joins.below_alloc1 w5 _)) ((rdP Y_5.out YP.out).rd.below (Go.Joins.below_alloc1 w5 _)) K0.out.2.1 K1.out.2.1 (len_m N0.out) (len_m N1.out)).mono ?_
  rintro e w6 ⟨rfl, hb⟩
  have Q1_6 : Hid (Blk w6 w5.heap.size #[.int .i64 n1, .slice (some ⟨YK, 0, none⟩) key1.length key1.length, .int .i64 b1, .slice (some ⟨YM, 0, none⟩) l1.length l1.length] 36) := (Blk.new _ _ _).grow hb
  have U_Q1 : Hid (w5.heap.size ≤ w5.heap.size ∧ w5.heap.size < w6.heap.size) := ⟨by omega, Q1_6.out.lt⟩
  replace hb := grow_on (Go.Joins.below_alloc1 w5 _) hb
  have B6 : Hid (Below w.heap.size w w6) := grow_on B5.out hb
  have Z6 : Hid (w5.heap.size ≤ w6.heap.size) := hb.size
  have P0_6 : Hid (Blk w6 w.heap.size #[.int .i64 n0, .slice ka0 key0.length kc0, .int .i64 b0, .slice a0 l0.length cap0] 67) := P0_5.out.grow hb
  have P1_6 : Hid (Blk w6 (w.heap.size + 1) #[.int .i64 n1, .slice ka1 key1.length kc1, .int .i64 b1, .slice a1 l1.length cap1] 67) := P1_5.out.grow hb
  have X_6 : Hid (GB w3.heap.size w6 XK key0 XM 0 Xr) := X_5.out.grow hb
  have Q0_6 : Hid (Blk w6 w4.heap.size #[.int .i64 n0, .slice (some ⟨XK, 0, none⟩) key0.length key0.length, .int .i64 b0, .slice (some ⟨XM, 0, none⟩) l0.length l0.length] 36) := Q0_5.out.grow hb
  have Y_6 : Hid (GB w4.heap.size w6 YK key1 YM 0 Yr) := Y_5.out.grow hb
  clear hb cP00 cP01 cP02 cP03 cP10 cP11 cP12 cP13 cQ00 cQ01 cQ02 cQ03
  have cP00 : w6.cell? ⟨w.heap.size, 0, none⟩ = some (.int .i64 n0) := (P0_6.out).cell 0
  have cP01 : w6.cell? ⟨w.heap.size, 1, none⟩ = some (.slice ka0 key0.length kc0) := (P0_6.out).cell 1
  have cP02 : w6.cell? ⟨w.heap.size, 2, none⟩ = some (.int .i64 b0) := (P0_6.out).cell 2
  have cP03 : w6.cell? ⟨w.heap.size, 3, none⟩ = some (.slice a0 l0.length cap0) := (P0_6.out).cell 3
  have cQ00 : w6.cell? ⟨w4.heap.size, 0, none⟩ = some (.int .i64 n0) := (Q0_6.out).cell 0
  have cQ01 : w6.cell? ⟨w4.heap.size, 1, none⟩ = some (.slice (some ⟨XK, 0, none⟩) key0.length key0.length) := (Q0_6.out).cell 1
  have cQ02 : w6.cell? ⟨w4.heap.size, 2, none⟩ = some (.int .i64 b0) := (Q0_6.out).cell 2
  have cQ03 : w6.cell? ⟨w4.heap.size, 3, none⟩ = some (.slice (some ⟨XM, 0, none⟩) l0.length l0.length) := (Q0_6.out).cell 3
  go_wp2
  have kz : Below w6.heap.size w6 w6.drew := (Below.refl _ _).drew
  have kP0 := P0_6.out.lt
  have kQ0 := Q0_6.out.lt
  have HS : Hid (∀ w', Below w6.heap.size w6 w' → Below w6.heap.size w6 w' ∧ w'.cell? ⟨w.heap.size, 0, none⟩ = some (.int .i64 n0) ∧ w'.cell? ⟨w.heap.size, 1, none⟩ = some (.slice ka0 key0.length kc0) ∧ w'.cell? ⟨w.heap.size, 2, none⟩ = some (.int .i64 b0) ∧ w'.cell? ⟨w.heap.size, 3, none⟩ = some (.slice a0 l0.length cap0) ∧ w'.cell? ⟨w4.heap.size, 0, none⟩ = some (.int .i64 n0) ∧ w'.cell? ⟨w4.heap.size, 1, none⟩ = some (.slice (some ⟨XK, 0, none⟩) key0.length key0.length) ∧ w'.cell? ⟨w4.heap.size, 2, none⟩ = some (.int .i64 b0) ∧ w'.cell? ⟨w4.heap.size, 3, none⟩ = some (.slice (some ⟨XM, 0, none⟩) l0.length l0.length)) := fun w' h => ⟨h, (h.cell kP0).trans cP00, (h.cell kP0).trans cP01, (h.cell kP0).trans cP02, (h.cell kP0).trans cP03, (h.cell kQ0).trans cQ00, (h.cell kQ0).trans cQ01, (h.cell kQ0).trans cQ02, (h.cell kQ0).trans cQ03⟩
  go_region_held3 (fun w' => Below w6.heap.size w6 w' ∧ w'.cell? ⟨w.heap.size, 0, none⟩ = some (.int .i64 n0) ∧ w'.cell? ⟨w.heap.size, 1, none⟩ = some (.slice ka0 key0.length kc0) ∧ w'.cell? ⟨w.heap.size, 2, none⟩ = some (.int .i64 b0) ∧ w'.cell? ⟨w.heap.size, 3, none⟩ = some (.slice a0 l0.length cap0) ∧ w'.cell? ⟨w4.heap.size, 0, none⟩ = some (.int .i64 n0) ∧ w'.cell? ⟨w4.heap.size, 1, none⟩ = some (.slice (some ⟨XK, 0, none⟩) key0.length key0.length) ∧ w'.cell? ⟨w4.heap.size, 2, none⟩ = some (.int .i64 b0) ∧ w'.cell? ⟨w4.heap.size, 3, none⟩ = some (.slice (some ⟨XM, 0, none⟩) l0.length l0.length)) (first | with_reducible exact HS.out _ kz | with_reducible exact HS.out _ (grow_on kz hy0) | with_reducible exact HS.out _ (grow_on (grow_on kz hy0) hy1) | (go_keep; done)) (first | (go_at_call 38; with_reducible refine (Grp.toBatch_any n0 b0 ka0 kc0 key0 a0 cap0 l0 _ (U0.out.below (grow_on B6.out kz)) K0.out.1 (R0.out.below (grow_on B6.out kz)) K0.out.2.1 K0.out.2.2.1).mono ?_; rintro e wy ⟨⟨EK, EM, Er, rfl, hG, hA, hP⟩, hy0⟩) | (go_at_call 39; refine (Grp.eqBatch_any n0 b0 _ _ _ _ key0 _ _ _ _ l0 _ ((X_6.out.key.rd).below (grow_on kz hy0)) hG.key.rd Q0k.out.1 ((rdP X_6.out XP.out).rd.below (grow_on kz hy0)) (rdP hG hP).rd M0.out F0.out).mono ?_; rintro e w7 ⟨rfl, hy1⟩))
  have hb := (grow_on (grow_on kz hy0) hy1)
  have B7 : Hid (Below w.heap.size w w7) := grow_on B6.out hb
  have Z7 : Hid (w6.heap.size ≤ w7.heap.size) := hb.size
  have P0_7 : Hid (Blk w7 w.heap.size #[.int .i64 n0, .slice ka0 key0.length kc0, .int .i64 b0, .slice a0 l0.length cap0] 67) := P0_6.out.grow hb
  have P1_7 : Hid (Blk w7 (w.heap.size + 1) #[.int .i64 n1, .slice ka1 key1.length kc1, .int .i64 b1, .slice a1 l1.length cap1] 67) := P1_6.out.grow hb
  have X_7 : Hid (GB w3.heap.size w7 XK key0 XM 0 Xr) := X_6.out.grow hb
  have Q0_7 : Hid (Blk w7 w4.heap.size #[.int .i64 n0, .slice (some ⟨XK, 0, none⟩) key0.length key0.length, .int .i64 b0, .slice (some ⟨XM, 0, none⟩) l0.length l0.length] 36) := Q0_6.out.grow hb
  have Y_7 : Hid (GB w4.heap.size w7 YK key1 YM 0 Yr) := Y_6.out.grow hb
  have Q1_7 : Hid (Blk w7 w5.heap.size #[.int .i64 n1, .slice (some ⟨YK, 0, none⟩) key1.length key1.length, .int .i64 b1, .slice (some ⟨YM, 0, none⟩) l1.length l1.length] 36) := Q1_6.out.grow hb
  clear hb kz HS hy0 hy1 kP0 kQ0 cP00 cP01 cP02 cP03 cQ00 cQ01 cQ02 cQ03 hG hA hP
  have cP10 : w7.cell? ⟨(w.heap.size + 1), 0, none⟩ = some (.int .i64 n1) := (P1_7.out).cell 0
  have cP11 : w7.cell? ⟨(w.heap.size + 1), 1, none⟩ = some (.slice ka1 key1.length kc1) := (P1_7.out).cell 1
  have cP12 : w7.cell? ⟨(w.heap.size + 1), 2, none⟩ = some (.int .i64 b1) := (P1_7.out).cell 2
  have cP13 : w7.cell? ⟨(w.heap.size + 1), 3, none⟩ = some (.slice a1 l1.length cap1) := (P1_7.out).cell 3
  have cQ10 : w7.cell? ⟨w5.heap.size, 0, none⟩ = some (.int .i64 n1) := (Q1_7.out).cell 0
  have cQ11 : w7.cell? ⟨w5.heap.size, 1, none⟩ = some (.slice (some ⟨YK, 0, none⟩) key1.length key1.length) := (Q1_7.out).cell 1
  have cQ12 : w7.cell? ⟨w5.heap.size, 2, none⟩ = some (.int .i64 b1) := (Q1_7.out).cell 2
  have cQ13 : w7.cell? ⟨w5.heap.size, 3, none⟩ = some (.slice (some ⟨YM, 0, none⟩) l1.length l1.length) := (Q1_7.out).cell 3
  go_wp2
  have kz : Below w7.heap.size w7 w7.drew := (Below.refl _ _).drew
  have kP1 := P1_7.out.lt
  have kQ1 := Q1_7.out.lt
  have HS : Hid (∀ w', Below w7.heap.size w7 w' → Below w7.heap.size w7 w' ∧ w'.cell? ⟨(w.heap.size + 1), 0, none⟩ = some (.int .i64 n1) ∧ w'.cell? ⟨(w.heap.size + 1), 1, none⟩ = some (.slice ka1 key1.length kc1) ∧ w'.cell? ⟨(w.heap.size + 1), 2, none⟩ = some (.int .i64 b1) ∧ w'.cell? ⟨(w.heap.size + 1), 3, none⟩ = some (.slice a1 l1.length cap1) ∧ w'.cell? ⟨w5.heap.size, 0, none⟩ = some (.int .i64 n1) ∧ w'.cell? ⟨w5.heap.size, 1, none⟩ = some (.slice (some ⟨YK, 0, none⟩) key1.length key1.length) ∧ w'.cell? ⟨w5.heap.size, 2, none⟩ = some (.int .i64 b1) ∧ w'.cell? ⟨w5.heap.size, 3, none⟩ = some (.slice (some ⟨YM, 0, none⟩) l1.length l1.length)) := fun w' h => ⟨h, (h.cell kP1).trans cP10, (h.cell kP1).trans cP11, (h.cell kP1).trans cP12, (h.cell kP1).trans cP13, (h.cell kQ1).trans cQ10, (h.cell kQ1).trans cQ11, (h.cell kQ1).trans cQ12, (h.cell kQ1).trans cQ13⟩
  go_region_held3 (fun w' => Below w7.heap.size w7 w' ∧ w'.cell? ⟨(w.heap.size + 1), 0, none⟩ = some (.int .i64 n1) ∧ w'.cell? ⟨(w.heap.size + 1), 1, none⟩ = some (.slice ka1 key1.length kc1) ∧ w'.cell? ⟨(w.heap.size + 1), 2, none⟩ = some (.int .i64 b1) ∧ w'.cell? ⟨(w.heap.size + 1), 3, none⟩ = some (.slice a1 l1.length cap1) ∧ w'.cell? ⟨w5.heap.size, 0, none⟩ = some (.int .i64 n1) ∧ w'.cell? ⟨w5.heap.size, 1, none⟩ = some (.slice (some ⟨YK, 0, none⟩) key1.length key1.length) ∧ w'.cell? ⟨w5.heap.size, 2, none⟩ = some (.int .i64 b1) ∧ w'.cell? ⟨w5.heap.size, 3, none⟩ = some (.slice (some ⟨YM, 0, none⟩) l1.length l1.length)) (first | with_reducible exact HS.out _ kz | with_reducible exact HS.out _ (grow_on kz hy0) | with_reducible exact HS.out _ (grow_on (grow_on kz hy0) hy1) | (go_keep; done)) (first | (go_at_call 38; with_reducible refine (Grp.toBatch_any n1 b1 ka1 kc1 key1 a1 cap1 l1 _ (U1.out.below (grow_on B7.out kz)) K1.out.1 (R1.out.below (grow_on B7.out kz)) K1.out.2.1 K1.out.2.2.1).mono ?_; rintro e wy ⟨⟨EK, EM, Er, rfl, hG, hA, hP⟩, hy0⟩) | (go_at_call 39; refine (Grp.eqBatch_any n1 b1 _ _ _ _ key1 _ _ _ _ l1 _ ((Y_7.out.key.rd).below (grow_on kz hy0)) hG.key.rd Q1k.out.1 ((rdP Y_7.out YP.out).rd.below (grow_on kz hy0)) (rdP hG hP).rd M1.out F1.out).mono ?_; rintro e w8 ⟨rfl, hy1⟩))
  have hb := (grow_on (grow_on kz hy0) hy1)
  have B8 : Hid (Below w.heap.size w w8) := grow_on B7.out hb
  have Z8 : Hid (w7.heap.size ≤ w8.heap.size) := hb.size
  have P0_8 : Hid (Blk w8 w.heap.size #[.int .i64 n0, .slice ka0 key0.length kc0, .int .i64 b0, .slice a0 l0.length cap0] 67) := P0_7.out.grow hb
  have P1_8 : Hid (Blk w8 (w.heap.size + 1) #[.int .i64 n1, .slice ka1 key1.length kc1, .int .i64 b1, .slice a1 l1.length cap1] 67) := P1_7.out.grow hb
  have Y_8 : Hid (GB w4.heap.size w8 YK key1 YM 0 Yr) := Y_7.out.grow hb
  have Q1_8 : Hid (Blk w8 w5.heap.size #[.int .i64 n1, .slice (some ⟨YK, 0, none⟩) key1.length key1.length, .int .i64 b1, .slice (some ⟨YM, 0, none⟩) l1.length l1.length] 36) := Q1_7.out.grow hb
  clear hb kz HS hy0 hy1 kP1 kQ1 cP10 cP11 cP12 cP13 cQ10 cQ11 cQ12 cQ13 hG hA hP
  have cP00 : w8.cell? ⟨w.heap.size, 0, none⟩ = some (.int .i64 n0) := (P0_8.out).cell 0
  have cP01 : w8.cell? ⟨w.heap.size, 1, none⟩ = some (.slice ka0 key0.length kc0) := (P0_8.out).cell 1
  have cP02 : w8.cell? ⟨w.heap.size, 2, none⟩ = some (.int .i64 b0) := (P0_8.out).cell 2
  have cP03 : w8.cell? ⟨w.heap.size, 3, none⟩ = some (.slice a0 l0.length cap0) := (P0_8.out).cell 3
  have cP10 : w8.cell? ⟨(w.heap.size + 1), 0, none⟩ = some (.int .i64 n1) := (P1_8.out).cell 0
  have cP11 : w8.cell? ⟨(w.heap.size + 1), 1, none⟩ = some (.slice ka1 key1.length kc1) := (P1_8.out).cell 1
  have cP12 : w8.cell? ⟨(w.heap.size + 1), 2, none⟩ = some (.int .i64 b1) := (P1_8.out).cell 2
  have cP13 : w8.cell? ⟨(w.heap.size + 1), 3, none⟩ = some (.slice a1 l1.length cap1) := (P1_8.out).cell 3
  have cQ10 : w8.cell? ⟨w5.heap.size, 0, none⟩ = some (.int .i64 n1) := (Q1_8.out).cell 0
  have cQ11 : w8.cell? ⟨w5.heap.size, 1, none⟩ = some (.slice (some ⟨YK, 0, none⟩) key1.length key1.length) := (Q1_8.out).cell 1
  have cQ12 : w8.cell? ⟨w5.heap.size, 2, none⟩ = some (.int .i64 b1) := (Q1_8.out).cell 2
  have cQ13 : w8.cell? ⟨w5.heap.size, 3, none⟩ = some (.slice (some ⟨YM, 0, none⟩) l1.length l1.length) := (Q1_8.out).cell 3
  go_wp2
  go_ret
  exact ⟨rfl, B8.out⟩
theorem own : ownKnob Try.prog.godebug = none := by kernel_rfl
theorem laidOut : laidOutB Try.prog = true := by kernel_rfl
set_option maxRecDepth 100000 in
theorem lifted (os : Os) (started : os.Started) (H : Type) (enc : TypeId × Value → H) :
    ReturnsInHanded {} Try.checked os 6 .any (Rows.fnExactSameBatchSpec.pre6 enc Try.prog Try.f6 Rows.fnExactSameBatchRow.domain false) (Rows.fnExactSameBatchSpec.post enc Try.prog Try.f6 false true false false) := by
  refine returnsInHanded_of_change (C := Try.checked) own started (by kernel_rfl) Try.func6
    (ChangeSpec.witness6 (enc := enc) (C := Try.checked) false ⟨#[], #[.agg #[.int .i64 0, .slice none 0 0, .int .i64 0, .slice none 0 0], .agg #[.int .i64 0, .slice none 0 0, .int .i64 0, .slice none 0 0]], []⟩ 8 (by kernel_rfl) (by kernel_rfl) (by kernel_rfl) (by kernel_rfl)) ?_
  intro W base args ds gs before hval0 hW hcnd _
  have hval : ∀ (j : Nat) t v, Try.f6.params[j]? = some t → args[j]? = some v → Value.okWide Try.prog W .any base t v := hval0
  have hW' := hW
  obtain ⟨p, q, hA0, hV, rfl, hfz, hnd⟩ := hW
  have hA : DataW.TrodAll enc Try.prog W 0 (fun _ => true) true Try.f6.params.toList args.toList ds p := hA0
  rw [Try.params6] at hA hval
  obtain ⟨v0, vs0, d0, ds0, p0, q0, hargs, rfl, rfl, h0, r0⟩ := trodAll_cons hA
  obtain ⟨v1, vs1, d1, ds1, p1, q1, rfl, rfl, rfl, h1, r1⟩ := trodAll_cons r0
  obtain ⟨rfl, rfl, rfl⟩ := trodAll_nil r1
  obtain rfl : args = #[v0, v1] := by cases args; simp_all
  obtain ⟨rfl, rfl⟩ := trodVars_none hV
  have k0 := h0
  have lt0 : ∀ x ∈ p0, x.block < W.heap.size := by obtain ⟨m, hm⟩ := k0; exact DataW.trod_lt m _ _ _ hm
  obtain ⟨n0, b0, ka0, kc0, key0, a0, cap0, l0, rfl, u0, q0, y0, w0, m0, z0, xn0, xb0⟩ := Go.Proofs.Ytekcmpjjfnijmaa.Grp.open_batch (hval 0 67 v0 rfl rfl) h0
  have k1 := h1
  have lt1 : ∀ x ∈ p1, x.block < W.heap.size := by obtain ⟨m, hm⟩ := k1; exact DataW.trod_lt m _ _ _ hm
  obtain ⟨n1, b1, ka1, kc1, key1, a1, cap1, l1, rfl, u1, q1, y1, w1, m1, z1, xn1, xb1⟩ := Go.Proofs.Ytekcmpjjfnijmaa.Grp.open_batch (hval 1 67 v1 rfl rfl) h1
  clear hA0 hval0
  refine (walk n0 b0 ka0 kc0 key0 a0 cap0 l0 n1 b1 ka1 kc1 key1 a1 cap1 l1 W u0 q0 y0 w0 m0 z0 u1 q1 y1 w1 m1 z1).mono fun e W' ⟨he, bel⟩ => ?_
  subst he
  exact ⟨_, rfl, _, _, _, [], _, [], hW', trodAll_mk1 (shut_bool Try.underlying4 _), (trodAll_cons_mk (Below.trod laidOut (by kernel_rfl) (of_decide_eq_true (by kernel_rfl)) k0 bel lt0) (trodAll_cons_mk (Below.trod laidOut (by kernel_rfl) (of_decide_eq_true (by kernel_rfl)) k1 bel lt1) trodAll_mk0)), rfl, bel.frame _, fun h => by cases h⟩

theorem over : Rows.fnExactSameBatchRow.holds Try.pinned (OpenSpec.ofChange Rows.fnExactSameBatchSpec) :=
  OpenClaim.holds_of_wide 6 Try.f6 rfl rfl rfl rfl rfl rfl rfl ⟨rfl, rfl, rfl, rfl, rfl⟩ rfl rfl rfl rfl rfl (by kernel_rfl) Try.func6 (by kernel_rfl)
    (of_decide_eq_true (by kernel_rfl)) (by unfold Func.isWrapper; first | (rw [if_pos (by decide +kernel)]; kernel_rfl) | (rw [if_neg (by decide +kernel)]; exact ⟨rfl, rfl⟩))
    (fun os started H enc _ => lifted os started H enc)

end Go.Proofs.Ytekcmpjjfnijmaa.FnExactSameBatch
namespace Go.Proofs.Ytekcmpjjfnijmaa
theorem fnExactSameBatch_holds : Rows.FnExactSameBatchSaid := FnExactSameBatch.over
#print axioms fnExactSameBatch_holds
end Go.Proofs.Ytekcmpjjfnijmaa
