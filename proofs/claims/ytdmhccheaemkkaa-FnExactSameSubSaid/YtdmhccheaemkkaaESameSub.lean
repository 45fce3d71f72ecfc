/-
  PROVED: at every two listeners impl.SameSub answers as spec.SameSub and leaves them as they were, so the law laws.FnExactSameSub returns true, whatever its arguments. No condition.
-/
import Derived.Test.YtdmhccheaemkkaaRows
import Derived.WalkKit
import Derived.ProofKit
import Derived.OpenShut
import Derived.ShutString
import Derived.ChangeOld
import Derived.Below
import Derived.WalkLawsBesides
import Derived.WalkSpells
import Derived.Test.YtdmhccheaemkkaaSub
import Derived.Deep.RegionHeld3
namespace Go.Proofs.Ytdmhccheaemkkaa.FnExactSameSub
open Go.ChangeShapes Go.WideShapes Go.ChangeAt Go.RowKit
open Go.ChangeMaps (open_string shut_string)
set_option linter.unusedVariables false

open Go.Proofs.Ytdmhccheaemkkaa.Labs Go.Proofs.Ytdmhccheaemkkaa.LabS Go.Proofs.Ytdmhccheaemkkaa.Over Go.Proofs.Ytdmhccheaemkkaa.Blk Go.Proofs.Ytdmhccheaemkkaa.Alms Go.Proofs.Ytdmhccheaemkkaa.Rws Go.Proofs.Ytdmhccheaemkkaa.ChnC Go.Proofs.Ytdmhccheaemkkaa.ChnK
open Go.Proofs.Ytdmhccheaemkkaa.Alm (AlIn)
open Go.Proofs.Ytdmhccheaemkkaa.LabT (held_reads)
theorem rdP {lo : Nat} {w : World} {M c : Nat} {rs : List ARow} {P : List PAl} (h : AB lo w M c rs) (hp : pals rs = P) : RdN w (some ⟨M, 0, none⟩) P := by have := h.rd; rwa [hp] at this
theorem len_m {P : List PAl} (h : LenM P) : ChnI.LenP P := ChnP.len_m h
set_option maxRecDepth 100000 in
set_option maxHeartbeats 4000000 in
theorem walk (a0 : Option Addr) (cap0 : Nat) (l0 : List PAl) (b0 : Bool) (a1 : Option Addr) (cap1 : Nat) (l1 : List PAl) (b1 : Bool) (w : World) (r0 : RdA w a0 l0) (m0 : l0.length ≤ maxLen) (z0 : FitsP l0) (r1 : RdA w a1 l1) (m1 : l1.length ≤ maxLen) (z1 : FitsP l1) :
    Calls Try.prog 6 #[.agg #[.slice a0 l0.length cap0, .bool b0], .agg #[.slice a1 l1.length cap1, .bool b1]] w fun e w' => e = .returned (.bool true) ∧ Below w.heap.size w w' := by
  have R0 : Hid (RdA w a0 l0) := r0
  have M0 : Hid (l0.length ≤ maxLen) := m0
  have F0 : Hid (FitsP l0) := z0
  clear r0 m0 z0
  have R1 : Hid (RdA w a1 l1) := r1
  have M1 : Hid (l1.length ≤ maxLen) := m1
  have F1 : Hid (FitsP l1) := z1
  clear r1 m1 z1
  have B0 : Hid (Below w.heap.size w w) := Below.refl _ _
  go_enter Try.func6, Try.ntmps6
  go_wp2_with fail
  refine (Sub.sz_any b0 a0 cap0 l0 1048576 _ (R0.out.below (grow_on B0.out (Go.Joins.below_alloc2 w _ _))) M0.out F0.out (by omega) (by omega)).mono ?_
  rintro e w1 ⟨⟨k0, rfl, p0, hn⟩, hb⟩
  have P0_1 : Hid (Blk w1 w.heap.size #[.slice a0 l0.length cap0, .bool b0] 52) := ((Blk.new _ _ _).alloc _).grow hb
  have U_P0 : Hid (w.heap.size ≤ w.heap.size ∧ w.heap.size < w1.heap.size) := ⟨by omega, P0_1.out.lt⟩
  have P1_1 : Hid (Blk w1 (w.heap.size + 1) #[.slice a1 l1.length cap1, .bool b1] 52) := (Blk.new_at (by simp)).grow hb
  have U_P1 : Hid (w.heap.size ≤ (w.heap.size + 1) ∧ (w.heap.size + 1) < w1.heap.size) := ⟨by omega, P1_1.out.lt⟩
  replace hb := grow_on (Go.Joins.below_alloc2 w _ _) hb
  have B1 : Hid (Below w.heap.size w w1) := grow_on B0.out hb
  have Z1 : Hid (w.heap.size ≤ w1.heap.size) := hb.size
  clear hb
  by_cases g0 : k0 < 0
  · clear hn
    go_wp2
    go_ret
    exact ⟨rfl, B1.out⟩
  have K0 : Hid (l0.length ≤ 1048576 ∧ sumL l0 ≤ 1048576 ∧ l0.length + sumL l0 ≤ 1048576) := by have := hn (by omega); exact ⟨by omega, by omega, by omega⟩
  have N0 : Hid (LenM l0) := fun q hq => Nat.le_trans (sum_nth hq) K0.out.2.1
  clear hn
  have cP00 : w1.cell? ⟨w.heap.size, 0, none⟩ = some (.slice a0 l0.length cap0) := (P0_1.out).cell 0
  have cP01 : w1.cell? ⟨w.heap.size, 1, none⟩ = some (.bool b0) := (P0_1.out).cell 1
  have cP10 : w1.cell? ⟨(w.heap.size + 1), 0, none⟩ = some (.slice a1 l1.length cap1) := (P1_1.out).cell 0
  have cP11 : w1.cell? ⟨(w.heap.size + 1), 1, none⟩ = some (.bool b1) := (P1_1.out).cell 1
  go_wp2_with fail
  refine (Sub.sz_any b1 a1 cap1 l1 k0 _ (R1.out.below B1.out) M1.out F1.out (by omega) (by omega)).mono ?_
  rintro e w2 ⟨⟨k1, rfl, p1, hn⟩, hb⟩
  have B2 : Hid (Below w.heap.size w w2) := grow_on B1.out hb
  have Z2 : Hid (w1.heap.size ≤ w2.heap.size) := hb.size
  have P0_2 : Hid (Blk w2 w.heap.size #[.slice a0 l0.length cap0, .bool b0] 52) := P0_1.out.grow hb
  have P1_2 : Hid (Blk w2 (w.heap.size + 1) #[.slice a1 l1.length cap1, .bool b1] 52) := P1_1.out.grow hb
  clear hb cP00 cP01 cP10 cP11
  by_cases g1 : k1 < 0
  · clear hn
    go_wp2
    go_ret
    exact ⟨rfl, B2.out⟩
  have K1 : Hid (l1.length ≤ 1048576 ∧ sumL l1 ≤ 1048576 ∧ l1.length + sumL l1 ≤ 1048576) := by have := hn (by omega); exact ⟨by omega, by omega, by omega⟩
  have N1 : Hid (LenM l1) := fun q hq => Nat.le_trans (sum_nth hq) K1.out.2.1
  clear hn
  have cP00 : w2.cell? ⟨w.heap.size, 0, none⟩ = some (.slice a0 l0.length cap0) := (P0_2.out).cell 0
  have cP01 : w2.cell? ⟨w.heap.size, 1, none⟩ = some (.bool b0) := (P0_2.out).cell 1
  have cP10 : w2.cell? ⟨(w.heap.size + 1), 0, none⟩ = some (.slice a1 l1.length cap1) := (P1_2.out).cell 0
  have cP11 : w2.cell? ⟨(w.heap.size + 1), 1, none⟩ = some (.bool b1) := (P1_2.out).cell 1
  go_wp2
  have kz : Below w2.heap.size w2 w2.drew := (Below.refl _ _).drew
  have kP0 := P0_2.out.lt
  have kP1 := P1_2.out.lt
  have HS : Hid (∀ w', Below w2.heap.size w2 w' → Below w2.heap.size w2 w' ∧ w'.cell? ⟨w.heap.size, 0, none⟩ = some (.slice a0 l0.length cap0) ∧ w'.cell? ⟨w.heap.size, 1, none⟩ = some (.bool b0) ∧ w'.cell? ⟨(w.heap.size + 1), 0, none⟩ = some (.slice a1 l1.length cap1) ∧ w'.cell? ⟨(w.heap.size + 1), 1, none⟩ = some (.bool b1)) := fun w' h => ⟨h, (h.cell kP0).trans cP00, (h.cell kP0).trans cP01, (h.cell kP1).trans cP10, (h.cell kP1).trans cP11⟩
  go_region_held3 (fun w' => Below w2.heap.size w2 w' ∧ w'.cell? ⟨w.heap.size, 0, none⟩ = some (.slice a0 l0.length cap0) ∧ w'.cell? ⟨w.heap.size, 1, none⟩ = some (.bool b0) ∧ w'.cell? ⟨(w.heap.size + 1), 0, none⟩ = some (.slice a1 l1.length cap1) ∧ w'.cell? ⟨(w.heap.size + 1), 1, none⟩ = some (.bool b1)) (first | with_reducible exact HS.out _ kz | with_reducible exact HS.out _ (grow_on kz hy0) | with_reducible exact HS.out _ (grow_on (grow_on kz hy0) hy1) | with_reducible exact HS.out _ (grow_on (grow_on (grow_on kz hy0) hy1) hy2) | (go_keep; done)) (first | (go_at_call 32; with_reducible refine (Sub.to_any b0 a0 cap0 l0 _ (R0.out.below (grow_on B2.out kz)) K0.out.1 K0.out.2.1).mono ?_; rintro e wy0 ⟨⟨Y0M, Y0r, rfl, hA0, hP0⟩, hy0⟩) | (go_at_call 32; with_reducible refine (Sub.to_any b1 a1 cap1 l1 _ (R1.out.below (grow_on B2.out (grow_on kz hy0))) K1.out.1 K1.out.2.1).mono ?_; rintro e wy1 ⟨⟨Y1M, Y1r, rfl, hA1, hP1⟩, hy1⟩) | (go_at_call 23; refine (Sub.specSameS_any b0 b1 _ _ _ _ l0 l1 _ ((rdP hA0 hP0).rd.below hy1) (rdP hA1 hP1).rd K0.out.1 K1.out.1 (len_m N0.out) (len_m N1.out)).mono ?_; rintro e w3 ⟨rfl, hy2⟩))
  have hb := (grow_on (grow_on (grow_on kz hy0) hy1) hy2)
  have B3 : Hid (Below w.heap.size w w3) := grow_on B2.out hb
  have Z3 : Hid (w2.heap.size ≤ w3.heap.size) := hb.size
  have P0_3 : Hid (Blk w3 w.heap.size #[.slice a0 l0.length cap0, .bool b0] 52) := P0_2.out.grow hb
  have P1_3 : Hid (Blk w3 (w.heap.size + 1) #[.slice a1 l1.length cap1, .bool b1] 52) := P1_2.out.grow hb
  clear hb kz HS hy0 hy1 hy2 kP0 kP1 cP00 cP01 cP10 cP11 hA0 hA1 hP0 hP1
  have cP00 : w3.cell? ⟨w.heap.size, 0, none⟩ = some (.slice a0 l0.length cap0) := (P0_3.out).cell 0
  have cP01 : w3.cell? ⟨w.heap.size, 1, none⟩ = some (.bool b0) := (P0_3.out).cell 1
  have cP10 : w3.cell? ⟨(w.heap.size + 1), 0, none⟩ = some (.slice a1 l1.length cap1) := (P1_3.out).cell 0
  have cP11 : w3.cell? ⟨(w.heap.size + 1), 1, none⟩ = some (.bool b1) := (P1_3.out).cell 1
  go_wp2_with fail
  refine (Sub.to_any b0 a0 cap0 l0 _ (R0.out.below B3.out) K0.out.1 K0.out.2.1).mono ?_
  rintro e w4 ⟨⟨XM, Xr, rfl, hA, hP⟩, hb⟩
  have X_4 : Hid (AB w3.heap.size w4 XM l0.length Xr) := hA.down (by first | omega | (simp; omega))
  have XP : Hid (pals Xr = l0) := hP
  have U_X : Hid (w3.heap.size ≤ XM ∧ XM < w4.heap.size) := ⟨X_4.out.at', X_4.out.lt⟩
  clear hA hP
  have B4 : Hid (Below w.heap.size w w4) := grow_on B3.out hb
  have Z4 : Hid (w3.heap.size ≤ w4.heap.size) := hb.size
  have P0_4 : Hid (Blk w4 w.heap.size #[.slice a0 l0.length cap0, .bool b0] 52) := P0_3.out.grow hb
  have P1_4 : Hid (Blk w4 (w.heap.size + 1) #[.slice a1 l1.length cap1, .bool b1] 52) := P1_3.out.grow hb
  clear hb cP00 cP01 cP10 cP11
  have cP00 : (w4.alloc (.cells #[.slice (some ⟨XM, 0, none⟩) l0.length l0.length, .bool b0] 26)).cell? ⟨w.heap.size, 0, none⟩ = some (.slice a0 l0.length cap0) := (P0_4.out.alloc _).cell 0
  have cP01 : (w4.alloc (.cells #[.slice (some ⟨XM, 0, none⟩) l0.length l0.length, .bool b0] 26)).cell? ⟨w.heap.size, 1, none⟩ = some (.bool b0) := (P0_4.out.alloc _).cell 1
  have cP10 : (w4.alloc (.cells #[.slice (some ⟨XM, 0, none⟩) l0.length l0.length, .bool b0] 26)).cell? ⟨(w.heap.size + 1), 0, none⟩ = some (.slice a1 l1.length cap1) := (P1_4.out.alloc _).cell 0
  have cP11 : (w4.alloc (.cells #[.slice (some ⟨XM, 0, none⟩) l0.length l0.length, .bool b0] 26)).cell? ⟨(w.heap.size + 1), 1, none⟩ = some (.bool b1) := (P1_4.out.alloc _).cell 1
  go_wp2_with fail
  refine (Sub.to_any b1 a1 cap1 l1 _ (R1.out.below (grow_on B4.out (Go.Joins.below_alloc1 w4 _))) K1.out.1 K1.out.2.1).mono ?_
  rintro e w5 ⟨⟨YM, Yr, rfl, hA, hP⟩, hb⟩
  have Y_5 : Hid (AB w4.heap.size w5 YM l1.length Yr) := hA.down (by first | omega | (simp; omega))
  have YP : Hid (pals Yr = l1) := hP
  have U_Y : Hid (w4.heap.size ≤ YM ∧ YM < w5.heap.size) := ⟨Y_5.out.at', Y_5.out.lt⟩
  clear hA hP
  have Q0_5 : Hid (Blk w5 w4.heap.size #[.slice (some ⟨XM, 0, none⟩) l0.length l0.length, .bool b0] 26) := (Blk.new _ _ _).grow hb
  have U_Q0 : Hid (w4.heap.size ≤ w4.heap.size ∧ w4.heap.size < w5.heap.size) := ⟨Nat.le_refl _, Q0_5.out.lt⟩
  replace hb := grow_on (Go.Joins.below_alloc1 w4 _) hb
  have B5 : Hid (Below w.heap.size w w5) := grow_on B4.out hb
  have Z5 : Hid (w4.heap.size ≤ w5.heap.size) := hb.size
  have P0_5 : Hid (Blk w5 w.heap.size #[.slice a0 l0.length cap0, .bool b0] 52) := P0_4.out.grow hb
  have P1_5 : Hid (Blk w5 (w.heap.size + 1) #[.slice a1 l1.length cap1, .bool b1] 52) := P1_4.out.grow hb
  have X_5 : Hid (AB w3.heap.size w5 XM l0.length Xr) := X_4.out.grow hb
  clear hb cP00 cP01 cP10 cP11
  have cP00 : (w5.alloc (.cells #[.slice (some ⟨YM, 0, none⟩) l1.length l1.length, .bool b1] 26)).cell? ⟨w.heap.size, 0, none⟩ = some (.slice a0 l0.length cap0) := (P0_5.out.alloc _).cell 0
  have cP01 : (w5.alloc (.cells #[.slice (some ⟨YM, 0, none⟩) l1.length l1.length, .bool b1] 26)).cell? ⟨w.heap.size, 1, none⟩ = some (.bool b0) := (P0_5.out.alloc _).cell 1
  have cP10 : (w5.alloc (.cells #[.slice (some ⟨YM, 0, none⟩) l1.length l1.length, .bool b1] 26)).cell? ⟨(w.heap.size + 1), 0, none⟩ = some (.slice a1 l1.length cap1) := (P1_5.out.alloc _).cell 0
  have cP11 : (w5.alloc (.cells #[.slice (some ⟨YM, 0, none⟩) l1.length l1.length, .bool b1] 26)).cell? ⟨(w.heap.size + 1), 1, none⟩ = some (.bool b1) := (P1_5.out.alloc _).cell 1
  have cQ00 : (w5.alloc (.cells #[.slice (some ⟨YM, 0, none⟩) l1.length l1.length, .bool b1] 26)).cell? ⟨w4.heap.size, 0, none⟩ = some (.slice (some ⟨XM, 0, none⟩) l0.length l0.length) := (Q0_5.out.alloc _).cell 0
  have cQ01 : (w5.alloc (.cells #[.slice (some ⟨YM, 0, none⟩) l1.length l1.length, .bool b1] 26)).cell? ⟨w4.heap.size, 1, none⟩ = some (.bool b0) := (Q0_5.out.alloc _).cell 1
  go_wp2_with fail
  refine (Sub.implSameS_any b0 b1 _ _ _ _ l0 l1 _ ((rdP X_5.out XP.out).rd.below (Go.Joins.below_alloc1 w5 _)) ((rdP Y_5.out YP.out).rd.below (Go.Joins.below_alloc1 w5 _)) K0.out.1 K1.out.1 (len_m N0.out) (len_m N1.out)).mono ?_
  rintro e w6 ⟨rfl, hb⟩
  have Q1_6 : Hid (Blk w6 w5.heap.size #[.slice (some ⟨YM, 0, none⟩) l1.length l1.length, .bool b1] 26) := (Blk.new _ _ _).grow hb
  have U_Q1 : Hid (w5.heap.size ≤ w5.heap.size ∧ w5.heap.size < w6.heap.size) := ⟨Nat.le_refl _, Q1_6.out.lt⟩
  replace hb := grow_on (Go.Joins.below_alloc1 w5 _) hb
  have B6 : Hid (Below w.heap.size w w6) := grow_on B5.out hb
  have Z6 : Hid (w5.heap.size ≤ w6.heap.size) := hb.size
  have P0_6 : Hid (Blk w6 w.heap.size #[.slice a0 l0.length cap0, .bool b0] 52) := P0_5.out.grow hb
  have P1_6 : Hid (Blk w6 (w.heap.size + 1) #[.slice a1 l1.length cap1, .bool b1] 52) := P1_5.out.grow hb
  have X_6 : Hid (AB w3.heap.size w6 XM l0.length Xr) := X_5.out.grow hb
  have Q0_6 : Hid (Blk w6 w4.heap.size #[.slice (some ⟨XM, 0, none⟩) l0.length l0.length, .bool b0] 26) := Q0_5.out.grow hb
  have Y_6 : Hid (AB w4.heap.size w6 YM l1.length Yr) := Y_5.out.grow hb
  clear hb cP00 cP01 cP10 cP11 cQ00 cQ01
  have cP00 : w6.cell? ⟨w.heap.size, 0, none⟩ = some (.slice a0 l0.length cap0) := (P0_6.out).cell 0
  have cP01 : w6.cell? ⟨w.heap.size, 1, none⟩ = some (.bool b0) := (P0_6.out).cell 1
  have cQ00 : w6.cell? ⟨w4.heap.size, 0, none⟩ = some (.slice (some ⟨XM, 0, none⟩) l0.length l0.length) := (Q0_6.out).cell 0
  have cQ01 : w6.cell? ⟨w4.heap.size, 1, none⟩ = some (.bool b0) := (Q0_6.out).cell 1
  go_wp2
  have kz : Below w6.heap.size w6 w6.drew := (Below.refl _ _).drew
  have kP0 := P0_6.out.lt
  have kQ0 := Q0_6.out.lt
  have HS : Hid (∀ w', Below w6.heap.size w6 w' → Below w6.heap.size w6 w' ∧ w'.cell? ⟨w.heap.size, 0, none⟩ = some (.slice a0 l0.length cap0) ∧ w'.cell? ⟨w.heap.size, 1, none⟩ = some (.bool b0) ∧ w'.cell? ⟨w4.heap.size, 0, none⟩ = some (.slice (some ⟨XM, 0, none⟩) l0.length l0.length) ∧ w'.cell? ⟨w4.heap.size, 1, none⟩ = some (.bool b0)) := fun w' h => ⟨h, (h.cell kP0).trans cP00, (h.cell kP0).trans cP01, (h.cell kQ0).trans cQ00, (h.cell kQ0).trans cQ01⟩
  go_region_held3 (fun w' => Below w6.heap.size w6 w' ∧ w'.cell? ⟨w.heap.size, 0, none⟩ = some (.slice a0 l0.length cap0) ∧ w'.cell? ⟨w.heap.size, 1, none⟩ = some (.bool b0) ∧ w'.cell? ⟨w4.heap.size, 0, none⟩ = some (.slice (some ⟨XM, 0, none⟩) l0.length l0.length) ∧ w'.cell? ⟨w4.heap.size, 1, none⟩ = some (.bool b0)) (first | with_reducible exact HS.out _ kz | with_reducible exact HS.out _ (grow_on kz hy0) | with_reducible exact HS.out _ (grow_on (grow_on kz hy0) hy1) | (go_keep; done)) (first | (go_at_call 32; with_reducible refine (Sub.to_any b0 a0 cap0 l0 _ (R0.out.below (grow_on B6.out kz)) K0.out.1 K0.out.2.1).mono ?_; rintro e wy ⟨⟨EM, Er, rfl, hA, hP⟩, hy0⟩) | (go_at_call 33; refine (Sub.eq_any b0 _ _ _ _ l0 _ ((rdP X_6.out XP.out).rd.below (grow_on kz hy0)) (rdP hA hP).rd M0.out F0.out).mono ?_; rintro e w7 ⟨rfl, hy1⟩))
  have hb := (grow_on (grow_on kz hy0) hy1)
  have B7 : Hid (Below w.heap.size w w7) := grow_on B6.out hb
  have Z7 : Hid (w6.heap.size ≤ w7.heap.size) := hb.size
  have P0_7 : Hid (Blk w7 w.heap.size #[.slice a0 l0.length cap0, .bool b0] 52) := P0_6.out.grow hb
  have P1_7 : Hid (Blk w7 (w.heap.size + 1) #[.slice a1 l1.length cap1, .bool b1] 52) := P1_6.out.grow hb
  have X_7 : Hid (AB w3.heap.size w7 XM l0.length Xr) := X_6.out.grow hb
  have Q0_7 : Hid (Blk w7 w4.heap.size #[.slice (some ⟨XM, 0, none⟩) l0.length l0.length, .bool b0] 26) := Q0_6.out.grow hb
  have Y_7 : Hid (AB w4.heap.size w7 YM l1.length Yr) := Y_6.out.grow hb
  have Q1_7 : Hid (Blk w7 w5.heap.size #[.slice (some ⟨YM, 0, none⟩) l1.length l1.length, .bool b1] 26) := Q1_6.out.grow hb
  clear hb kz HS hy0 hy1 kP0 kQ0 cP00 cP01 cQ00 cQ01 hA hP
  have cP10 : w7.cell? ⟨(w.heap.size + 1), 0, none⟩ = some (.slice a1 l1.length cap1) := (P1_7.out).cell 0
  have cP11 : w7.cell? ⟨(w.heap.size + 1), 1, none⟩ = some (.bool b1) := (P1_7.out).cell 1
  have cQ10 : w7.cell? ⟨w5.heap.size, 0, none⟩ = some (.slice (some ⟨YM, 0, none⟩) l1.length l1.length) := (Q1_7.out).cell 0
  have cQ11 : w7.cell? ⟨w5.heap.size, 1, none⟩ = some (.bool b1) := (Q1_7.out).cell 1
  go_wp2
  have kz : Below w7.heap.size w7 w7.drew := (Below.refl _ _).drew
  have kP1 := P1_7.out.lt
  have kQ1 := Q1_7.out.lt
  have HS : Hid (∀ w', Below w7.heap.size w7 w' → Below w7.heap.size w7 w' ∧ w'.cell? ⟨(w.heap.size + 1), 0, none⟩ = some (.slice a1 l1.length cap1) ∧ w'.cell? ⟨(w.heap.size + 1), 1, none⟩ = some (.bool b1) ∧ w'.cell? ⟨w5.heap.size, 0, none⟩ = some (.slice (some ⟨YM, 0, none⟩) l1.length l1.length) ∧ w'.cell? ⟨w5.heap.size, 1, none⟩ = some (.bool b1)) := fun w' h => ⟨h, (h.cell kP1).trans cP10, (h.cell kP1).trans cP11, (h.cell kQ1).trans cQ10, (h.cell kQ1).trans cQ11⟩
  go_region_held3 (fun w' => Below w7.heap.size w7 w' ∧ w'.cell? ⟨(w.heap.size + 1), 0, none⟩ = some (.slice a1 l1.length cap1) ∧ w'.cell? ⟨(w.heap.size + 1), 1, none⟩ = some (.bool b1) ∧ w'.cell? ⟨w5.heap.size, 0, none⟩ = some (.slice (some ⟨YM, 0, none⟩) l1.length l1.length) ∧ w'.cell? ⟨w5.heap.size, 1, none⟩ = some (.bool b1)) (first | with_reducible exact HS.out _ kz | with_reducible exact HS.out _ (grow_on kz hy0) | with_reducible exact HS.out _ (grow_on (grow_on kz hy0) hy1) | (go_keep; done)) (first | (go_at_call 32; with_reducible refine (Sub.to_any b1 a1 cap1 l1 _ (R1.out.below (grow_on B7.out kz)) K1.out.1 K1.out.2.1).mono ?_; rintro e wy ⟨⟨EM, Er, rfl, hA, hP⟩, hy0⟩) | (go_at_call 33; refine (Sub.eq_any b1 _ _ _ _ l1 _ ((rdP Y_7.out YP.out).rd.below (grow_on kz hy0)) (rdP hA hP).rd M1.out F1.out).mono ?_; rintro e w8 ⟨rfl, hy1⟩))
  have hb := (grow_on (grow_on kz hy0) hy1)
  have B8 : Hid (Below w.heap.size w w8) := grow_on B7.out hb
  have Z8 : Hid (w7.heap.size ≤ w8.heap.size) := hb.size
  have P0_8 : Hid (Blk w8 w.heap.size #[.slice a0 l0.length cap0, .bool b0] 52) := P0_7.out.grow hb
  have P1_8 : Hid (Blk w8 (w.heap.size + 1) #[.slice a1 l1.length cap1, .bool b1] 52) := P1_7.out.grow hb
  have Y_8 : Hid (AB w4.heap.size w8 YM l1.length Yr) := Y_7.out.grow hb
  have Q1_8 : Hid (Blk w8 w5.heap.size #[.slice (some ⟨YM, 0, none⟩) l1.length l1.length, .bool b1] 26) := Q1_7.out.grow hb
  clear hb kz HS hy0 hy1 kP1 kQ1 cP10 cP11 cQ10 cQ11 hA hP
  have cP00 : w8.cell? ⟨w.heap.size, 0, none⟩ = some (.slice a0 l0.length cap0) := (P0_8.out).cell 0
  have cP01 : w8.cell? ⟨w.heap.size, 1, none⟩ = some (.bool b0) := (P0_8.out).cell 1
  have cP10 : w8.cell? ⟨(w.heap.size + 1), 0, none⟩ = some (.slice a1 l1.length cap1) := (P1_8.out).cell 0
  have cP11 : w8.cell? ⟨(w.heap.size + 1), 1, none⟩ = some (.bool b1) := (P1_8.out).cell 1
  have cQ10 : w8.cell? ⟨w5.heap.size, 0, none⟩ = some (.slice (some ⟨YM, 0, none⟩) l1.length l1.length) := (Q1_8.out).cell 0
  have cQ11 : w8.cell? ⟨w5.heap.size, 1, none⟩ = some (.bool b1) := (Q1_8.out).cell 1
  go_wp2
  go_ret
  exact ⟨rfl, B8.out⟩
theorem own : ownKnob Try.prog.godebug = none := by kernel_rfl
theorem laidOut : laidOutB Try.prog = true := by kernel_rfl
set_option maxRecDepth 100000 in
theorem lifted (os : Os) (started : os.Started) (H : Type) (enc : TypeId × Value → H) :
    ReturnsInHanded {} Try.checked os 6 .any (Rows.fnExactSameSubSpec.pre6 enc Try.prog Try.f6 Rows.fnExactSameSubRow.domain false) (Rows.fnExactSameSubSpec.post enc Try.prog Try.f6 false true false false) := by
  refine returnsInHanded_of_change (C := Try.checked) own started (by kernel_rfl) Try.func6
    (ChangeSpec.witness6 (enc := enc) (C := Try.checked) false ⟨#[], #[.agg #[.slice none 0 0, .bool false], .agg #[.slice none 0 0, .bool false]], []⟩ 8 (by kernel_rfl) (by kernel_rfl) (by kernel_rfl) (by kernel_rfl)) ?_
  intro W base args ds gs before hval0 hW hcnd _
  have hval : ∀ (j : Nat) t v, Try.f6.params[j]? = some t → args[j]? = some v → Value.okWide Try.prog W .any base t v := hval0
  have hW' := hW
  obtain ⟨p, q, hA0, hV, rfl, hfz, hnd⟩ := hW
  have hA : DataW.TrodAll enc Try.prog W 0 (fun _ => true) true Try.f6.params.toList args.toList ds p := hA0
  rw [Try.params6] at hA hval
  obtain ⟨v0, vs0, d0, ds0, p0, q0, hargs, rfl, rfl, h0, r0⟩ := trodAll_cons hA
  obtain ⟨v1, vs1, d1, ds1, p1, q1, rfl, rfl, rfl, h1, r1⟩ := trodAll_cons r0
  obtain ⟨rfl, rfl, rfl⟩ := trodAll_nil r1
  obtain rfl : args = #[v0, v1] := by cases args; simp_all
  obtain ⟨rfl, rfl⟩ := trodVars_none hV
  have k0 := h0
  have lt0 : ∀ x ∈ p0, x.block < W.heap.size := by obtain ⟨m, hm⟩ := k0; exact DataW.trod_lt m _ _ _ hm
  obtain ⟨a0, cap0, l0, b0, rfl, w0, m0, z0⟩ := Go.Proofs.Ytdmhccheaemkkaa.Sub.open_sub (hval 0 52 v0 rfl rfl) h0
  have k1 := h1
  have lt1 : ∀ x ∈ p1, x.block < W.heap.size := by obtain ⟨m, hm⟩ := k1; exact DataW.trod_lt m _ _ _ hm
  obtain ⟨a1, cap1, l1, b1, rfl, w1, m1, z1⟩ := Go.Proofs.Ytdmhccheaemkkaa.Sub.open_sub (hval 1 52 v1 rfl rfl) h1
  clear hA0 hval0
  refine (walk a0 cap0 l0 b0 a1 cap1 l1 b1 W w0 m0 z0 w1 m1 z1).mono fun e W' ⟨he, bel⟩ => ?_
  subst he
  exact ⟨_, rfl, _, _, _, [], _, [], hW', trodAll_mk1 (shut_bool Try.underlying4 _), (trodAll_cons_mk (Below.trod laidOut (by kernel_rfl) (of_decide_eq_true (by kernel_rfl)) k0 bel lt0) (trodAll_cons_mk (Below.trod laidOut (by kernel_rfl) (of_decide_eq_true (by kernel_rfl)) k1 bel lt1) trodAll_mk0)), rfl, bel.frame _, fun h => by cases h⟩

theorem over : Rows.fnExactSameSubRow.holds Try.pinned (OpenSpec.ofChange Rows.fnExactSameSubSpec) :=
  OpenClaim.holds_of_wide 6 Try.f6 rfl rfl rfl rfl rfl rfl rfl ⟨rfl, rfl, rfl, rfl, rfl⟩ rfl rfl rfl rfl rfl (by kernel_rfl) Try.func6 (by kernel_rfl)
    (of_decide_eq_true (by kernel_rfl)) (by unfold Func.isWrapper; first | (rw [if_pos (by decide +kernel)]; kernel_rfl) | (rw [if_neg (by decide +kernel)]; exact ⟨rfl, rfl⟩))
    (fun os started H enc _ => lifted os started H enc)

end Go.Proofs.Ytdmhccheaemkkaa.FnExactSameSub
namespace Go.Proofs.Ytdmhccheaemkkaa
theorem fnExactSameSub_holds : Rows.FnExactSameSubSaid := FnExactSameSub.over
#print axioms fnExactSameSub_holds
end Go.Proofs.Ytdmhccheaemkkaa
