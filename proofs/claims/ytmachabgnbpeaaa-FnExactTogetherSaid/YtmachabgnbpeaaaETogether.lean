/-
  PROVED: at every two alarms and every slice of strings impl.Together answers as spec.Together and leaves them as they were, so the law laws.FnExactTogether returns true, whatever its arguments. No condition.
-/
import Derived.Test.YtmachabgnbpeaaaRows
import Derived.WalkKit
import Derived.ProofKit
import Derived.OpenShut
import Derived.ShutString
import Derived.ChangeOld
import Derived.Below
import Derived.WalkLawsBesides
import Derived.WalkSpells
import Derived.Test.YtmachabgnbpeaaaTog
import Derived.Test.YtmachabgnbpeaaaStrT
namespace Go.Proofs.Ytmachabgnbpeaaa.FnExactTogether
open Go.ChangeShapes Go.WideShapes Go.ChangeAt Go.RowKit
open Go.ChangeMaps (open_string shut_string)
set_option linter.unusedVariables false

open Go.Proofs.Ytmachabgnbpeaaa.Labs Go.Proofs.Ytmachabgnbpeaaa.LabS Go.Proofs.Ytmachabgnbpeaaa.LabT Go.Proofs.Ytmachabgnbpeaaa.Over Go.Proofs.Ytmachabgnbpeaaa.Blk Go.Proofs.Ytmachabgnbpeaaa.Pro Go.Proofs.Ytmachabgnbpeaaa.Tog Go.Proofs.Ytmachabgnbpeaaa.Alm
open Go.Proofs.Ytmachabgnbpeaaa.StrT (FitsS heldS_reads HeldS)
set_option maxRecDepth 100000 in
set_option maxHeartbeats 16000000 in
theorem walk (a0 : Option Addr) (cap0 : Nat) (l0 : List Lab) (s0 e0 : Int) (n0 : ByteArray) (a1 : Option Addr) (cap1 : Nat) (l1 : List Lab) (s1 e1 : Int) (n1 : ByteArray) (a2 : Option Addr) (cap2 : Nat) (l2 : List ByteArray) (w : World) (g0 : AlIn w a0 l0 s0 e0 n0) (g1 : AlIn w a1 l1 s1 e1 n1) (r2 : RdS w a2 l2) (m2 : l2.length ≤ maxLen) (f2 : FitsS l2) :
    Calls Try.prog 7 #[.agg #[.slice a0 l0.length cap0, .int .i64 s0, .int .i64 e0, .string n0], .agg #[.slice a1 l1.length cap1, .int .i64 s1, .int .i64 e1, .string n1], .slice a2 l2.length cap2] w fun e w' => e = .returned (.bool true) ∧ Below w.heap.size w w' := by
  have R0 : Hid (Reads w a0 l0) := g0.reads
  have M0 : Hid (l0.length ≤ maxLen) := g0.len
  have G0 : Hid (AlIn w a0 l0 s0 e0 n0) := g0
  clear g0
  have R1 : Hid (Reads w a1 l1) := g1.reads
  have M1 : Hid (l1.length ≤ maxLen) := g1.len
  have G1 : Hid (AlIn w a1 l1 s1 e1 n1) := g1
  clear g1
  have R2 : Hid (RdS w a2 l2) := r2
  have M2 : Hid (l2.length ≤ maxLen) := m2
  have F2 : Hid (FitsS l2) := f2
  clear r2 m2 f2
  have B0 : Hid (Below w.heap.size w w) := Below.refl _ _
  go_enter Try.func7, Try.ntmps7
  go_wp2_with fail
  refine (Go.Proofs.Ytmachabgnbpeaaa.Alm.sz_any a0 cap0 l0 s0 e0 n0 1048576 _ (G0.out.below (grow_on B0.out (Go.Joins.below_alloc2 w _ _))) (by omega) (by omega)).mono ?_
  rintro e w1 ⟨⟨k0, rfl, p0, hn⟩, hb⟩
  have P0_1 : Hid (Blk w1 w.heap.size #[.slice a0 l0.length cap0, .int .i64 s0, .int .i64 e0, .string n0] 54) := ((Blk.new _ _ _).alloc _).grow hb
  have U_P0 : Hid (w.heap.size ≤ w.heap.size ∧ w.heap.size < w1.heap.size) := ⟨by omega, P0_1.out.lt⟩
  have P1_1 : Hid (Blk w1 (w.heap.size + 1) #[.slice a1 l1.length cap1, .int .i64 s1, .int .i64 e1, .string n1] 54) := (Blk.new_at (by simp)).grow hb
  have U_P1 : Hid (w.heap.size ≤ (w.heap.size + 1) ∧ (w.heap.size + 1) < w1.heap.size) := ⟨by omega, P1_1.out.lt⟩
  replace hb := grow_on (Go.Joins.below_alloc2 w _ _) hb
  have B1 : Hid (Below w.heap.size w w1) := grow_on B0.out hb
  have Z1 : Hid (w.heap.size ≤ w1.heap.size) := hb.size
  clear hb
  by_cases g0 : k0 < 0
  · clear hn
    go_wp2
    go_ret
    exact ⟨rfl, B1.out⟩
  have K0 : Hid (l0.length ≤ 1048576) := by have := hn (by omega); show l0.length ≤ 1048576; omega
  clear hn
  have cP00 : w1.cell? ⟨w.heap.size, 0, none⟩ = some (.slice a0 l0.length cap0) := (P0_1.out).cell 0
  have cP01 : w1.cell? ⟨w.heap.size, 1, none⟩ = some (.int .i64 s0) := (P0_1.out).cell 1
  have cP02 : w1.cell? ⟨w.heap.size, 2, none⟩ = some (.int .i64 e0) := (P0_1.out).cell 2
  have cP03 : w1.cell? ⟨w.heap.size, 3, none⟩ = some (.string n0) := (P0_1.out).cell 3
  have cP10 : w1.cell? ⟨(w.heap.size + 1), 0, none⟩ = some (.slice a1 l1.length cap1) := (P1_1.out).cell 0
  have cP11 : w1.cell? ⟨(w.heap.size + 1), 1, none⟩ = some (.int .i64 s1) := (P1_1.out).cell 1
  have cP12 : w1.cell? ⟨(w.heap.size + 1), 2, none⟩ = some (.int .i64 e1) := (P1_1.out).cell 2
  have cP13 : w1.cell? ⟨(w.heap.size + 1), 3, none⟩ = some (.string n1) := (P1_1.out).cell 3
  go_wp2_with fail
  refine (Go.Proofs.Ytmachabgnbpeaaa.Alm.sz_any a1 cap1 l1 s1 e1 n1 k0 _ (G1.out.below B1.out) (by omega) (by omega)).mono ?_
  rintro e w2 ⟨⟨k1, rfl, p1, hn⟩, hb⟩
  have B2 : Hid (Below w.heap.size w w2) := grow_on B1.out hb
  have Z2 : Hid (w1.heap.size ≤ w2.heap.size) := hb.size
  have P0_2 : Hid (Blk w2 w.heap.size #[.slice a0 l0.length cap0, .int .i64 s0, .int .i64 e0, .string n0] 54) := P0_1.out.grow hb
  have P1_2 : Hid (Blk w2 (w.heap.size + 1) #[.slice a1 l1.length cap1, .int .i64 s1, .int .i64 e1, .string n1] 54) := P1_1.out.grow hb
  clear hb cP00 cP01 cP02 cP03 cP10 cP11 cP12 cP13
  by_cases g1 : k1 < 0
  · clear hn
    go_wp2
    go_ret
    exact ⟨rfl, B2.out⟩
  have K1 : Hid (l1.length ≤ 1048576) := by have := hn (by omega); show l1.length ≤ 1048576; omega
  clear hn
  have cP00 : w2.cell? ⟨w.heap.size, 0, none⟩ = some (.slice a0 l0.length cap0) := (P0_2.out).cell 0
  have cP01 : w2.cell? ⟨w.heap.size, 1, none⟩ = some (.int .i64 s0) := (P0_2.out).cell 1
  have cP02 : w2.cell? ⟨w.heap.size, 2, none⟩ = some (.int .i64 e0) := (P0_2.out).cell 2
  have cP03 : w2.cell? ⟨w.heap.size, 3, none⟩ = some (.string n0) := (P0_2.out).cell 3
  have cP10 : w2.cell? ⟨(w.heap.size + 1), 0, none⟩ = some (.slice a1 l1.length cap1) := (P1_2.out).cell 0
  have cP11 : w2.cell? ⟨(w.heap.size + 1), 1, none⟩ = some (.int .i64 s1) := (P1_2.out).cell 1
  have cP12 : w2.cell? ⟨(w.heap.size + 1), 2, none⟩ = some (.int .i64 e1) := (P1_2.out).cell 2
  have cP13 : w2.cell? ⟨(w.heap.size + 1), 3, none⟩ = some (.string n1) := (P1_2.out).cell 3
  go_wp2_with fail
  refine (Go.Proofs.Ytmachabgnbpeaaa.StrT.sz_any a2 cap2 l2 k1 _ (R2.out.below B2.out) M2.out F2.out (by omega) (by omega)).mono ?_
  rintro e w3 ⟨⟨k2, rfl, p2, hn⟩, hb⟩
  have B3 : Hid (Below w.heap.size w w3) := grow_on B2.out hb
  have Z3 : Hid (w2.heap.size ≤ w3.heap.size) := hb.size
  have P0_3 : Hid (Blk w3 w.heap.size #[.slice a0 l0.length cap0, .int .i64 s0, .int .i64 e0, .string n0] 54) := P0_2.out.grow hb
  have P1_3 : Hid (Blk w3 (w.heap.size + 1) #[.slice a1 l1.length cap1, .int .i64 s1, .int .i64 e1, .string n1] 54) := P1_2.out.grow hb
  clear hb cP00 cP01 cP02 cP03 cP10 cP11 cP12 cP13
  by_cases g2 : k2 < 0
  · clear hn
    go_wp2
    go_ret
    exact ⟨rfl, B3.out⟩
  have K2 : Hid (l2.length ≤ 1048576) := by have := hn (by omega); show l2.length ≤ 1048576; omega
  clear hn
  have cP00 : w3.cell? ⟨w.heap.size, 0, none⟩ = some (.slice a0 l0.length cap0) := (P0_3.out).cell 0
  have cP01 : w3.cell? ⟨w.heap.size, 1, none⟩ = some (.int .i64 s0) := (P0_3.out).cell 1
  have cP02 : w3.cell? ⟨w.heap.size, 2, none⟩ = some (.int .i64 e0) := (P0_3.out).cell 2
  have cP03 : w3.cell? ⟨w.heap.size, 3, none⟩ = some (.string n0) := (P0_3.out).cell 3
  have cP10 : w3.cell? ⟨(w.heap.size + 1), 0, none⟩ = some (.slice a1 l1.length cap1) := (P1_3.out).cell 0
  have cP11 : w3.cell? ⟨(w.heap.size + 1), 1, none⟩ = some (.int .i64 s1) := (P1_3.out).cell 1
  have cP12 : w3.cell? ⟨(w.heap.size + 1), 2, none⟩ = some (.int .i64 e1) := (P1_3.out).cell 2
  have cP13 : w3.cell? ⟨(w.heap.size + 1), 3, none⟩ = some (.string n1) := (P1_3.out).cell 3
  go_wp2
  have kz : Below w3.heap.size w3 w3.drew := (Below.refl _ _).drew
  have kP0 := P0_3.out.lt
  have kP1 := P1_3.out.lt
  have HS : Hid (∀ w', Below w3.heap.size w3 w' → Below w3.heap.size w3 w' ∧ w'.cell? ⟨w.heap.size, 0, none⟩ = some (.slice a0 l0.length cap0) ∧ w'.cell? ⟨w.heap.size, 1, none⟩ = some (.int .i64 s0) ∧ w'.cell? ⟨w.heap.size, 2, none⟩ = some (.int .i64 e0) ∧ w'.cell? ⟨w.heap.size, 3, none⟩ = some (.string n0) ∧ w'.cell? ⟨(w.heap.size + 1), 0, none⟩ = some (.slice a1 l1.length cap1) ∧ w'.cell? ⟨(w.heap.size + 1), 1, none⟩ = some (.int .i64 s1) ∧ w'.cell? ⟨(w.heap.size + 1), 2, none⟩ = some (.int .i64 e1) ∧ w'.cell? ⟨(w.heap.size + 1), 3, none⟩ = some (.string n1)) := fun w' h => ⟨h, (h.cell kP0).trans cP00, (h.cell kP0).trans cP01, (h.cell kP0).trans cP02, (h.cell kP0).trans cP03, (h.cell kP1).trans cP10, (h.cell kP1).trans cP11, (h.cell kP1).trans cP12, (h.cell kP1).trans cP13⟩
  go_region_held3 (fun w' => Below w3.heap.size w3 w' ∧ w'.cell? ⟨w.heap.size, 0, none⟩ = some (.slice a0 l0.length cap0) ∧ w'.cell? ⟨w.heap.size, 1, none⟩ = some (.int .i64 s0) ∧ w'.cell? ⟨w.heap.size, 2, none⟩ = some (.int .i64 e0) ∧ w'.cell? ⟨w.heap.size, 3, none⟩ = some (.string n0) ∧ w'.cell? ⟨(w.heap.size + 1), 0, none⟩ = some (.slice a1 l1.length cap1) ∧ w'.cell? ⟨(w.heap.size + 1), 1, none⟩ = some (.int .i64 s1) ∧ w'.cell? ⟨(w.heap.size + 1), 2, none⟩ = some (.int .i64 e1) ∧ w'.cell? ⟨(w.heap.size + 1), 3, none⟩ = some (.string n1)) (first | with_reducible exact HS.out _ kz | with_reducible exact HS.out _ (grow_on kz hy0) | with_reducible exact HS.out _ (grow_on (grow_on kz hy0) hy1) | with_reducible exact HS.out _ (grow_on (grow_on (grow_on kz hy0) hy1) hy2) | with_reducible exact HS.out _ (grow_on (grow_on (grow_on (grow_on kz hy0) hy1) hy2) hy3) | (go_keep; done)) (first | (go_at_call 36; with_reducible refine (Go.Proofs.Ytmachabgnbpeaaa.Alm.to_any a0 cap0 l0 s0 e0 n0 _ (R0.out.below (grow_on B3.out kz)) K0.out).mono ?_; rintro e wy0 ⟨⟨T0, cs0, rfl, -, hk0, -, hh0⟩, hy0⟩) | (go_at_call 36; with_reducible refine (Go.Proofs.Ytmachabgnbpeaaa.Alm.to_any a1 cap1 l1 s1 e1 n1 _ (R1.out.below (grow_on B3.out (grow_on kz hy0))) K1.out).mono ?_; rintro e wy1 ⟨⟨T1, cs1, rfl, -, hk1, -, hh1⟩, hy1⟩) | (go_at_call 27; with_reducible refine (Go.Proofs.Ytmachabgnbpeaaa.StrT.to_any a2 cap2 l2 _ (R2.out.below (grow_on B3.out (grow_on (grow_on kz hy0) hy1))) K2.out).mono ?_; rintro e wy2 ⟨rfl, ⟨cs2, hk2, -, hh2⟩, hy2⟩) | (go_at_call 18; refine (specTog_any _ _ _ _ _ _ l0 l1 s0 e0 s1 e1 n0 n1 l2 _ (((held_reads hk0 hh0).below hy1).below hy2) ((held_reads hk1 hh1).below hy2) (heldS_reads hk2 hh2) K0.out K1.out M2.out).mono ?_; rintro e w4 ⟨rfl, hy3⟩))
  have hb := (grow_on (grow_on (grow_on (grow_on kz hy0) hy1) hy2) hy3)
  have B4 : Hid (Below w.heap.size w w4) := grow_on B3.out hb
  have Z4 : Hid (w3.heap.size ≤ w4.heap.size) := hb.size
  have P0_4 : Hid (Blk w4 w.heap.size #[.slice a0 l0.length cap0, .int .i64 s0, .int .i64 e0, .string n0] 54) := P0_3.out.grow hb
  have P1_4 : Hid (Blk w4 (w.heap.size + 1) #[.slice a1 l1.length cap1, .int .i64 s1, .int .i64 e1, .string n1] 54) := P1_3.out.grow hb
  clear hb kz HS hy0 hy1 hy2 hy3 kP0 kP1 cP00 cP01 cP02 cP03 cP10 cP11 cP12 cP13 hk0 hh0 hk1 hh1 hk2 hh2
  have cP00 : w4.cell? ⟨w.heap.size, 0, none⟩ = some (.slice a0 l0.length cap0) := (P0_4.out).cell 0
  have cP01 : w4.cell? ⟨w.heap.size, 1, none⟩ = some (.int .i64 s0) := (P0_4.out).cell 1
  have cP02 : w4.cell? ⟨w.heap.size, 2, none⟩ = some (.int .i64 e0) := (P0_4.out).cell 2
  have cP03 : w4.cell? ⟨w.heap.size, 3, none⟩ = some (.string n0) := (P0_4.out).cell 3
  have cP10 : w4.cell? ⟨(w.heap.size + 1), 0, none⟩ = some (.slice a1 l1.length cap1) := (P1_4.out).cell 0
  have cP11 : w4.cell? ⟨(w.heap.size + 1), 1, none⟩ = some (.int .i64 s1) := (P1_4.out).cell 1
  have cP12 : w4.cell? ⟨(w.heap.size + 1), 2, none⟩ = some (.int .i64 e1) := (P1_4.out).cell 2
  have cP13 : w4.cell? ⟨(w.heap.size + 1), 3, none⟩ = some (.string n1) := (P1_4.out).cell 3
  go_wp2_with fail
  refine (Go.Proofs.Ytmachabgnbpeaaa.Alm.to_any a0 cap0 l0 s0 e0 n0 _ (R0.out.below B4.out) K0.out).mono ?_
  rintro e w5 ⟨⟨X0M, cs, rfl, -, hk, -, hh⟩, hb⟩
  have X0_5 : Hid (Reads w5 (some ⟨X0M, 0, none⟩) l0) := held_reads hk hh
  clear hk hh
  have B5 : Hid (Below w.heap.size w w5) := grow_on B4.out hb
  have Z5 : Hid (w4.heap.size ≤ w5.heap.size) := hb.size
  have P0_5 : Hid (Blk w5 w.heap.size #[.slice a0 l0.length cap0, .int .i64 s0, .int .i64 e0, .string n0] 54) := P0_4.out.grow hb
  have P1_5 : Hid (Blk w5 (w.heap.size + 1) #[.slice a1 l1.length cap1, .int .i64 s1, .int .i64 e1, .string n1] 54) := P1_4.out.grow hb
  clear hb cP00 cP01 cP02 cP03 cP10 cP11 cP12 cP13
  have cP00 : (w5.alloc (.cells #[.slice (some ⟨X0M, 0, none⟩) l0.length l0.length, .int .i64 s0, .int .i64 e0, .string n0] 32)).cell? ⟨w.heap.size, 0, none⟩ = some (.slice a0 l0.length cap0) := (P0_5.out.alloc _).cell 0
  have cP01 : (w5.alloc (.cells #[.slice (some ⟨X0M, 0, none⟩) l0.length l0.length, .int .i64 s0, .int .i64 e0, .string n0] 32)).cell? ⟨w.heap.size, 1, none⟩ = some (.int .i64 s0) := (P0_5.out.alloc _).cell 1
  have cP02 : (w5.alloc (.cells #[.slice (some ⟨X0M, 0, none⟩) l0.length l0.length, .int .i64 s0, .int .i64 e0, .string n0] 32)).cell? ⟨w.heap.size, 2, none⟩ = some (.int .i64 e0) := (P0_5.out.alloc _).cell 2
  have cP03 : (w5.alloc (.cells #[.slice (some ⟨X0M, 0, none⟩) l0.length l0.length, .int .i64 s0, .int .i64 e0, .string n0] 32)).cell? ⟨w.heap.size, 3, none⟩ = some (.string n0) := (P0_5.out.alloc _).cell 3
  have cP10 : (w5.alloc (.cells #[.slice (some ⟨X0M, 0, none⟩) l0.length l0.length, .int .i64 s0, .int .i64 e0, .string n0] 32)).cell? ⟨(w.heap.size + 1), 0, none⟩ = some (.slice a1 l1.length cap1) := (P1_5.out.alloc _).cell 0
  have cP11 : (w5.alloc (.cells #[.slice (some ⟨X0M, 0, none⟩) l0.length l0.length, .int .i64 s0, .int .i64 e0, .string n0] 32)).cell? ⟨(w.heap.size + 1), 1, none⟩ = some (.int .i64 s1) := (P1_5.out.alloc _).cell 1
  have cP12 : (w5.alloc (.cells #[.slice (some ⟨X0M, 0, none⟩) l0.length l0.length, .int .i64 s0, .int .i64 e0, .string n0] 32)).cell? ⟨(w.heap.size + 1), 2, none⟩ = some (.int .i64 e1) := (P1_5.out.alloc _).cell 2
  have cP13 : (w5.alloc (.cells #[.slice (some ⟨X0M, 0, none⟩) l0.length l0.length, .int .i64 s0, .int .i64 e0, .string n0] 32)).cell? ⟨(w.heap.size + 1), 3, none⟩ = some (.string n1) := (P1_5.out.alloc _).cell 3
  go_wp2_with fail
  refine (Go.Proofs.Ytmachabgnbpeaaa.Alm.to_any a1 cap1 l1 s1 e1 n1 _ (R1.out.below (grow_on B5.out (Go.Joins.below_alloc1 w5 _))) K1.out).mono ?_
  rintro e w6 ⟨⟨X1M, cs, rfl, -, hk, -, hh⟩, hb⟩
  have X1_6 : Hid (Reads w6 (some ⟨X1M, 0, none⟩) l1) := held_reads hk hh
  clear hk hh
  have Q0_6 : Hid (Blk w6 w5.heap.size #[.slice (some ⟨X0M, 0, none⟩) l0.length l0.length, .int .i64 s0, .int .i64 e0, .string n0] 32) := (Blk.new _ _ _).grow hb
  have U_Q0 : Hid (w5.heap.size ≤ w5.heap.size ∧ w5.heap.size < w6.heap.size) := ⟨Nat.le_refl _, Q0_6.out.lt⟩
  replace hb := grow_on (Go.Joins.below_alloc1 w5 _) hb
  have B6 : Hid (Below w.heap.size w w6) := grow_on B5.out hb
  have Z6 : Hid (w5.heap.size ≤ w6.heap.size) := hb.size
  have P0_6 : Hid (Blk w6 w.heap.size #[.slice a0 l0.length cap0, .int .i64 s0, .int .i64 e0, .string n0] 54) := P0_5.out.grow hb
  have P1_6 : Hid (Blk w6 (w.heap.size + 1) #[.slice a1 l1.length cap1, .int .i64 s1, .int .i64 e1, .string n1] 54) := P1_5.out.grow hb
  have X0_6 : Hid (Reads w6 (some ⟨X0M, 0, none⟩) l0) := X0_5.out.below hb
  clear hb cP00 cP01 cP02 cP03 cP10 cP11 cP12 cP13
  have cP00 : (w6.alloc (.cells #[.slice (some ⟨X1M, 0, none⟩) l1.length l1.length, .int .i64 s1, .int .i64 e1, .string n1] 32)).cell? ⟨w.heap.size, 0, none⟩ = some (.slice a0 l0.length cap0) := (P0_6.out.alloc _).cell 0
  have cP01 : (w6.alloc (.cells #[.slice (some ⟨X1M, 0, none⟩) l1.length l1.length, .int .i64 s1, .int .i64 e1, .string n1] 32)).cell? ⟨w.heap.size, 1, none⟩ = some (.int .i64 s0) := (P0_6.out.alloc _).cell 1
  have cP02 : (w6.alloc (.cells #[.slice (some ⟨X1M, 0, none⟩) l1.length l1.length, .int .i64 s1, .int .i64 e1, .string n1] 32)).cell? ⟨w.heap.size, 2, none⟩ = some (.int .i64 e0) := (P0_6.out.alloc _).cell 2
  have cP03 : (w6.alloc (.cells #[.slice (some ⟨X1M, 0, none⟩) l1.length l1.length, .int .i64 s1, .int .i64 e1, .string n1] 32)).cell? ⟨w.heap.size, 3, none⟩ = some (.string n0) := (P0_6.out.alloc _).cell 3
  have cP10 : (w6.alloc (.cells #[.slice (some ⟨X1M, 0, none⟩) l1.length l1.length, .int .i64 s1, .int .i64 e1, .string n1] 32)).cell? ⟨(w.heap.size + 1), 0, none⟩ = some (.slice a1 l1.length cap1) := (P1_6.out.alloc _).cell 0
  have cP11 : (w6.alloc (.cells #[.slice (some ⟨X1M, 0, none⟩) l1.length l1.length, .int .i64 s1, .int .i64 e1, .string n1] 32)).cell? ⟨(w.heap.size + 1), 1, none⟩ = some (.int .i64 s1) := (P1_6.out.alloc _).cell 1
  have cP12 : (w6.alloc (.cells #[.slice (some ⟨X1M, 0, none⟩) l1.length l1.length, .int .i64 s1, .int .i64 e1, .string n1] 32)).cell? ⟨(w.heap.size + 1), 2, none⟩ = some (.int .i64 e1) := (P1_6.out.alloc _).cell 2
  have cP13 : (w6.alloc (.cells #[.slice (some ⟨X1M, 0, none⟩) l1.length l1.length, .int .i64 s1, .int .i64 e1, .string n1] 32)).cell? ⟨(w.heap.size + 1), 3, none⟩ = some (.string n1) := (P1_6.out.alloc _).cell 3
  have cQ00 : (w6.alloc (.cells #[.slice (some ⟨X1M, 0, none⟩) l1.length l1.length, .int .i64 s1, .int .i64 e1, .string n1] 32)).cell? ⟨w5.heap.size, 0, none⟩ = some (.slice (some ⟨X0M, 0, none⟩) l0.length l0.length) := (Q0_6.out.alloc _).cell 0
  have cQ01 : (w6.alloc (.cells #[.slice (some ⟨X1M, 0, none⟩) l1.length l1.length, .int .i64 s1, .int .i64 e1, .string n1] 32)).cell? ⟨w5.heap.size, 1, none⟩ = some (.int .i64 s0) := (Q0_6.out.alloc _).cell 1
  have cQ02 : (w6.alloc (.cells #[.slice (some ⟨X1M, 0, none⟩) l1.length l1.length, .int .i64 s1, .int .i64 e1, .string n1] 32)).cell? ⟨w5.heap.size, 2, none⟩ = some (.int .i64 e0) := (Q0_6.out.alloc _).cell 2
  have cQ03 : (w6.alloc (.cells #[.slice (some ⟨X1M, 0, none⟩) l1.length l1.length, .int .i64 s1, .int .i64 e1, .string n1] 32)).cell? ⟨w5.heap.size, 3, none⟩ = some (.string n0) := (Q0_6.out.alloc _).cell 3
  go_wp2_with fail
  refine (Go.Proofs.Ytmachabgnbpeaaa.StrT.to_any a2 cap2 l2 _ (R2.out.below (grow_on B6.out (Go.Joins.below_alloc1 w6 _))) K2.out).mono ?_
  rintro e w7 ⟨rfl, ⟨cs, hk, -, hh⟩, hb⟩
  have Y_7 : Hid (RdS w7 (some ⟨(w6.heap.size + 1), 0, none⟩) l2) := by show RdS _ _ _; simpa using heldS_reads hk hh
  clear hk hh
  have Q1_7 : Hid (Blk w7 w6.heap.size #[.slice (some ⟨X1M, 0, none⟩) l1.length l1.length, .int .i64 s1, .int .i64 e1, .string n1] 32) := (Blk.new _ _ _).grow hb
  have U_Q1 : Hid (w6.heap.size ≤ w6.heap.size ∧ w6.heap.size < w7.heap.size) := ⟨Nat.le_refl _, Q1_7.out.lt⟩
  replace hb := grow_on (Go.Joins.below_alloc1 w6 _) hb
  have B7 : Hid (Below w.heap.size w w7) := grow_on B6.out hb
  have Z7 : Hid (w6.heap.size ≤ w7.heap.size) := hb.size
  have P0_7 : Hid (Blk w7 w.heap.size #[.slice a0 l0.length cap0, .int .i64 s0, .int .i64 e0, .string n0] 54) := P0_6.out.grow hb
  have P1_7 : Hid (Blk w7 (w.heap.size + 1) #[.slice a1 l1.length cap1, .int .i64 s1, .int .i64 e1, .string n1] 54) := P1_6.out.grow hb
  have X0_7 : Hid (Reads w7 (some ⟨X0M, 0, none⟩) l0) := X0_6.out.below hb
  have Q0_7 : Hid (Blk w7 w5.heap.size #[.slice (some ⟨X0M, 0, none⟩) l0.length l0.length, .int .i64 s0, .int .i64 e0, .string n0] 32) := Q0_6.out.grow hb
  have X1_7 : Hid (Reads w7 (some ⟨X1M, 0, none⟩) l1) := X1_6.out.below hb
  clear hb cP00 cP01 cP02 cP03 cP10 cP11 cP12 cP13 cQ00 cQ01 cQ02 cQ03
  have cP00 : w7.cell? ⟨w.heap.size, 0, none⟩ = some (.slice a0 l0.length cap0) := (P0_7.out).cell 0
  have cP01 : w7.cell? ⟨w.heap.size, 1, none⟩ = some (.int .i64 s0) := (P0_7.out).cell 1
  have cP02 : w7.cell? ⟨w.heap.size, 2, none⟩ = some (.int .i64 e0) := (P0_7.out).cell 2
  have cP03 : w7.cell? ⟨w.heap.size, 3, none⟩ = some (.string n0) := (P0_7.out).cell 3
  have cP10 : w7.cell? ⟨(w.heap.size + 1), 0, none⟩ = some (.slice a1 l1.length cap1) := (P1_7.out).cell 0
  have cP11 : w7.cell? ⟨(w.heap.size + 1), 1, none⟩ = some (.int .i64 s1) := (P1_7.out).cell 1
  have cP12 : w7.cell? ⟨(w.heap.size + 1), 2, none⟩ = some (.int .i64 e1) := (P1_7.out).cell 2
  have cP13 : w7.cell? ⟨(w.heap.size + 1), 3, none⟩ = some (.string n1) := (P1_7.out).cell 3
  have cQ00 : w7.cell? ⟨w5.heap.size, 0, none⟩ = some (.slice (some ⟨X0M, 0, none⟩) l0.length l0.length) := (Q0_7.out).cell 0
  have cQ01 : w7.cell? ⟨w5.heap.size, 1, none⟩ = some (.int .i64 s0) := (Q0_7.out).cell 1
  have cQ02 : w7.cell? ⟨w5.heap.size, 2, none⟩ = some (.int .i64 e0) := (Q0_7.out).cell 2
  have cQ03 : w7.cell? ⟨w5.heap.size, 3, none⟩ = some (.string n0) := (Q0_7.out).cell 3
  have cQ10 : w7.cell? ⟨w6.heap.size, 0, none⟩ = some (.slice (some ⟨X1M, 0, none⟩) l1.length l1.length) := (Q1_7.out).cell 0
  have cQ11 : w7.cell? ⟨w6.heap.size, 1, none⟩ = some (.int .i64 s1) := (Q1_7.out).cell 1
  have cQ12 : w7.cell? ⟨w6.heap.size, 2, none⟩ = some (.int .i64 e1) := (Q1_7.out).cell 2
  have cQ13 : w7.cell? ⟨w6.heap.size, 3, none⟩ = some (.string n1) := (Q1_7.out).cell 3
  go_wp2_with fail
  refine (implTog_any _ _ _ _ _ _ l0 l1 s0 e0 s1 e1 n0 n1 l2 _ X0_7.out X1_7.out Y_7.out K0.out K1.out M2.out).mono ?_
  rintro e w8 ⟨rfl, hb⟩
  have B8 : Hid (Below w.heap.size w w8) := grow_on B7.out hb
  have Z8 : Hid (w7.heap.size ≤ w8.heap.size) := hb.size
  have P0_8 : Hid (Blk w8 w.heap.size #[.slice a0 l0.length cap0, .int .i64 s0, .int .i64 e0, .string n0] 54) := P0_7.out.grow hb
  have P1_8 : Hid (Blk w8 (w.heap.size + 1) #[.slice a1 l1.length cap1, .int .i64 s1, .int .i64 e1, .string n1] 54) := P1_7.out.grow hb
  have X0_8 : Hid (Reads w8 (some ⟨X0M, 0, none⟩) l0) := X0_7.out.below hb
  have Q0_8 : Hid (Blk w8 w5.heap.size #[.slice (some ⟨X0M, 0, none⟩) l0.length l0.length, .int .i64 s0, .int .i64 e0, .string n0] 32) := Q0_7.out.grow hb
  have X1_8 : Hid (Reads w8 (some ⟨X1M, 0, none⟩) l1) := X1_7.out.below hb
  have Q1_8 : Hid (Blk w8 w6.heap.size #[.slice (some ⟨X1M, 0, none⟩) l1.length l1.length, .int .i64 s1, .int .i64 e1, .string n1] 32) := Q1_7.out.grow hb
  have Y_8 : Hid (RdS w8 (some ⟨(w6.heap.size + 1), 0, none⟩) l2) := Y_7.out.below hb
  clear hb cP00 cP01 cP02 cP03 cP10 cP11 cP12 cP13 cQ00 cQ01 cQ02 cQ03 cQ10 cQ11 cQ12 cQ13
  have e0' : Go.Proofs.Ytmachabgnbpeaaa.Alm.sameB l0 s0 e0 n0 l0 s0 e0 n0 = true := Go.Proofs.Ytmachabgnbpeaaa.Alm.same_self _ _ _ _
  have cP00 : w8.cell? ⟨w.heap.size, 0, none⟩ = some (.slice a0 l0.length cap0) := (P0_8.out).cell 0
  have cP01 : w8.cell? ⟨w.heap.size, 1, none⟩ = some (.int .i64 s0) := (P0_8.out).cell 1
  have cP02 : w8.cell? ⟨w.heap.size, 2, none⟩ = some (.int .i64 e0) := (P0_8.out).cell 2
  have cP03 : w8.cell? ⟨w.heap.size, 3, none⟩ = some (.string n0) := (P0_8.out).cell 3
  have cQ00 : w8.cell? ⟨w5.heap.size, 0, none⟩ = some (.slice (some ⟨X0M, 0, none⟩) l0.length l0.length) := (Q0_8.out).cell 0
  have cQ01 : w8.cell? ⟨w5.heap.size, 1, none⟩ = some (.int .i64 s0) := (Q0_8.out).cell 1
  have cQ02 : w8.cell? ⟨w5.heap.size, 2, none⟩ = some (.int .i64 e0) := (Q0_8.out).cell 2
  have cQ03 : w8.cell? ⟨w5.heap.size, 3, none⟩ = some (.string n0) := (Q0_8.out).cell 3
  go_wp2
  have kz : Below w8.heap.size w8 w8.drew := (Below.refl _ _).drew
  have kP0 := P0_8.out.lt
  have kQ0 := Q0_8.out.lt
  have HS : Hid (∀ w', Below w8.heap.size w8 w' → Below w8.heap.size w8 w' ∧ w'.cell? ⟨w.heap.size, 0, none⟩ = some (.slice a0 l0.length cap0) ∧ w'.cell? ⟨w.heap.size, 1, none⟩ = some (.int .i64 s0) ∧ w'.cell? ⟨w.heap.size, 2, none⟩ = some (.int .i64 e0) ∧ w'.cell? ⟨w.heap.size, 3, none⟩ = some (.string n0) ∧ w'.cell? ⟨w5.heap.size, 0, none⟩ = some (.slice (some ⟨X0M, 0, none⟩) l0.length l0.length) ∧ w'.cell? ⟨w5.heap.size, 1, none⟩ = some (.int .i64 s0) ∧ w'.cell? ⟨w5.heap.size, 2, none⟩ = some (.int .i64 e0) ∧ w'.cell? ⟨w5.heap.size, 3, none⟩ = some (.string n0)) := fun w' h => ⟨h, (h.cell kP0).trans cP00, (h.cell kP0).trans cP01, (h.cell kP0).trans cP02, (h.cell kP0).trans cP03, (h.cell kQ0).trans cQ00, (h.cell kQ0).trans cQ01, (h.cell kQ0).trans cQ02, (h.cell kQ0).trans cQ03⟩
  go_region_held3 (fun w' => Below w8.heap.size w8 w' ∧ w'.cell? ⟨w.heap.size, 0, none⟩ = some (.slice a0 l0.length cap0) ∧ w'.cell? ⟨w.heap.size, 1, none⟩ = some (.int .i64 s0) ∧ w'.cell? ⟨w.heap.size, 2, none⟩ = some (.int .i64 e0) ∧ w'.cell? ⟨w.heap.size, 3, none⟩ = some (.string n0) ∧ w'.cell? ⟨w5.heap.size, 0, none⟩ = some (.slice (some ⟨X0M, 0, none⟩) l0.length l0.length) ∧ w'.cell? ⟨w5.heap.size, 1, none⟩ = some (.int .i64 s0) ∧ w'.cell? ⟨w5.heap.size, 2, none⟩ = some (.int .i64 e0) ∧ w'.cell? ⟨w5.heap.size, 3, none⟩ = some (.string n0)) (first | with_reducible exact HS.out _ kz | with_reducible exact HS.out _ (grow_on kz hy0) | with_reducible exact HS.out _ (grow_on (grow_on kz hy0) hy1) | (go_keep; done)) (first | (go_at_call 36; with_reducible refine (Go.Proofs.Ytmachabgnbpeaaa.Alm.to_any a0 cap0 l0 s0 e0 n0 _ (R0.out.below (grow_on B8.out kz)) K0.out).mono ?_; rintro e wy ⟨⟨YM, cs, rfl, -, hk, -, hh⟩, hy0⟩) | (go_at_call 37; refine (Go.Proofs.Ytmachabgnbpeaaa.Alm.eq_any _ _ _ _ l0 l0 s0 e0 s0 e0 n0 n0 _ (X0_8.out.below (grow_on kz hy0)) (held_reads hk hh) M0.out M0.out).mono ?_; rintro e w9 ⟨rfl, hy1⟩))
  have hb := (grow_on (grow_on kz hy0) hy1)
  have B9 : Hid (Below w.heap.size w w9) := grow_on B8.out hb
  have Z9 : Hid (w8.heap.size ≤ w9.heap.size) := hb.size
  have P0_9 : Hid (Blk w9 w.heap.size #[.slice a0 l0.length cap0, .int .i64 s0, .int .i64 e0, .string n0] 54) := P0_8.out.grow hb
  have P1_9 : Hid (Blk w9 (w.heap.size + 1) #[.slice a1 l1.length cap1, .int .i64 s1, .int .i64 e1, .string n1] 54) := P1_8.out.grow hb
  have X0_9 : Hid (Reads w9 (some ⟨X0M, 0, none⟩) l0) := X0_8.out.below hb
  have Q0_9 : Hid (Blk w9 w5.heap.size #[.slice (some ⟨X0M, 0, none⟩) l0.length l0.length, .int .i64 s0, .int .i64 e0, .string n0] 32) := Q0_8.out.grow hb
  have X1_9 : Hid (Reads w9 (some ⟨X1M, 0, none⟩) l1) := X1_8.out.below hb
  have Q1_9 : Hid (Blk w9 w6.heap.size #[.slice (some ⟨X1M, 0, none⟩) l1.length l1.length, .int .i64 s1, .int .i64 e1, .string n1] 32) := Q1_8.out.grow hb
  have Y_9 : Hid (RdS w9 (some ⟨(w6.heap.size + 1), 0, none⟩) l2) := Y_8.out.below hb
  clear hb kz HS hy0 hy1 kP0 kQ0 cP00 cP01 cP02 cP03 cQ00 cQ01 cQ02 cQ03 hk hh
  have e1' : Go.Proofs.Ytmachabgnbpeaaa.Alm.sameB l1 s1 e1 n1 l1 s1 e1 n1 = true := Go.Proofs.Ytmachabgnbpeaaa.Alm.same_self _ _ _ _
  have cP10 : w9.cell? ⟨(w.heap.size + 1), 0, none⟩ = some (.slice a1 l1.length cap1) := (P1_9.out).cell 0
  have cP11 : w9.cell? ⟨(w.heap.size + 1), 1, none⟩ = some (.int .i64 s1) := (P1_9.out).cell 1
  have cP12 : w9.cell? ⟨(w.heap.size + 1), 2, none⟩ = some (.int .i64 e1) := (P1_9.out).cell 2
  have cP13 : w9.cell? ⟨(w.heap.size + 1), 3, none⟩ = some (.string n1) := (P1_9.out).cell 3
  have cQ10 : w9.cell? ⟨w6.heap.size, 0, none⟩ = some (.slice (some ⟨X1M, 0, none⟩) l1.length l1.length) := (Q1_9.out).cell 0
  have cQ11 : w9.cell? ⟨w6.heap.size, 1, none⟩ = some (.int .i64 s1) := (Q1_9.out).cell 1
  have cQ12 : w9.cell? ⟨w6.heap.size, 2, none⟩ = some (.int .i64 e1) := (Q1_9.out).cell 2
  have cQ13 : w9.cell? ⟨w6.heap.size, 3, none⟩ = some (.string n1) := (Q1_9.out).cell 3
  go_wp2
  have kz : Below w9.heap.size w9 w9.drew := (Below.refl _ _).drew
  have kP1 := P1_9.out.lt
  have kQ1 := Q1_9.out.lt
  have HS : Hid (∀ w', Below w9.heap.size w9 w' → Below w9.heap.size w9 w' ∧ w'.cell? ⟨(w.heap.size + 1), 0, none⟩ = some (.slice a1 l1.length cap1) ∧ w'.cell? ⟨(w.heap.size + 1), 1, none⟩ = some (.int .i64 s1) ∧ w'.cell? ⟨(w.heap.size + 1), 2, none⟩ = some (.int .i64 e1) ∧ w'.cell? ⟨(w.heap.size + 1), 3, none⟩ = some (.string n1) ∧ w'.cell? ⟨w6.heap.size, 0, none⟩ = some (.slice (some ⟨X1M, 0, none⟩) l1.length l1.length) ∧ w'.cell? ⟨w6.heap.size, 1, none⟩ = some (.int .i64 s1) ∧ w'.cell? ⟨w6.heap.size, 2, none⟩ = some (.int .i64 e1) ∧ w'.cell? ⟨w6.heap.size, 3, none⟩ = some (.string n1)) := fun w' h => ⟨h, (h.cell kP1).trans cP10, (h.cell kP1).trans cP11, (h.cell kP1).trans cP12, (h.cell kP1).trans cP13, (h.cell kQ1).trans cQ10, (h.cell kQ1).trans cQ11, (h.cell kQ1).trans cQ12, (h.cell kQ1).trans cQ13⟩
  go_region_held3 (fun w' => Below w9.heap.size w9 w' ∧ w'.cell? ⟨(w.heap.size + 1), 0, none⟩ = some (.slice a1 l1.length cap1) ∧ w'.cell? ⟨(w.heap.size + 1), 1, none⟩ = some (.int .i64 s1) ∧ w'.cell? ⟨(w.heap.size + 1), 2, none⟩ = some (.int .i64 e1) ∧ w'.cell? ⟨(w.heap.size + 1), 3, none⟩ = some (.string n1) ∧ w'.cell? ⟨w6.heap.size, 0, none⟩ = some (.slice (some ⟨X1M, 0, none⟩) l1.length l1.length) ∧ w'.cell? ⟨w6.heap.size, 1, none⟩ = some (.int .i64 s1) ∧ w'.cell? ⟨w6.heap.size, 2, none⟩ = some (.int .i64 e1) ∧ w'.cell? ⟨w6.heap.size, 3, none⟩ = some (.string n1)) (first | with_reducible exact HS.out _ kz | with_reducible exact HS.out _ (grow_on kz hy0) | with_reducible exact HS.out _ (grow_on (grow_on kz hy0) hy1) | (go_keep; done)) (first | (go_at_call 36; with_reducible refine (Go.Proofs.Ytmachabgnbpeaaa.Alm.to_any a1 cap1 l1 s1 e1 n1 _ (R1.out.below (grow_on B9.out kz)) K1.out).mono ?_; rintro e wy ⟨⟨YM, cs, rfl, -, hk, -, hh⟩, hy0⟩) | (go_at_call 37; refine (Go.Proofs.Ytmachabgnbpeaaa.Alm.eq_any _ _ _ _ l1 l1 s1 e1 s1 e1 n1 n1 _ (X1_9.out.below (grow_on kz hy0)) (held_reads hk hh) M1.out M1.out).mono ?_; rintro e w10 ⟨rfl, hy1⟩))
  have hb := (grow_on (grow_on kz hy0) hy1)
  have B10 : Hid (Below w.heap.size w w10) := grow_on B9.out hb
  have Z10 : Hid (w9.heap.size ≤ w10.heap.size) := hb.size
  have P0_10 : Hid (Blk w10 w.heap.size #[.slice a0 l0.length cap0, .int .i64 s0, .int .i64 e0, .string n0] 54) := P0_9.out.grow hb
  have P1_10 : Hid (Blk w10 (w.heap.size + 1) #[.slice a1 l1.length cap1, .int .i64 s1, .int .i64 e1, .string n1] 54) := P1_9.out.grow hb
  have X1_10 : Hid (Reads w10 (some ⟨X1M, 0, none⟩) l1) := X1_9.out.below hb
  have Q1_10 : Hid (Blk w10 w6.heap.size #[.slice (some ⟨X1M, 0, none⟩) l1.length l1.length, .int .i64 s1, .int .i64 e1, .string n1] 32) := Q1_9.out.grow hb
  have Y_10 : Hid (RdS w10 (some ⟨(w6.heap.size + 1), 0, none⟩) l2) := Y_9.out.below hb
  clear hb kz HS hy0 hy1 kP1 kQ1 cP10 cP11 cP12 cP13 cQ10 cQ11 cQ12 cQ13 hk hh
  have cP00 : w10.cell? ⟨w.heap.size, 0, none⟩ = some (.slice a0 l0.length cap0) := (P0_10.out).cell 0
  have cP01 : w10.cell? ⟨w.heap.size, 1, none⟩ = some (.int .i64 s0) := (P0_10.out).cell 1
  have cP02 : w10.cell? ⟨w.heap.size, 2, none⟩ = some (.int .i64 e0) := (P0_10.out).cell 2
  have cP03 : w10.cell? ⟨w.heap.size, 3, none⟩ = some (.string n0) := (P0_10.out).cell 3
  have cP10 : w10.cell? ⟨(w.heap.size + 1), 0, none⟩ = some (.slice a1 l1.length cap1) := (P1_10.out).cell 0
  have cP11 : w10.cell? ⟨(w.heap.size + 1), 1, none⟩ = some (.int .i64 s1) := (P1_10.out).cell 1
  have cP12 : w10.cell? ⟨(w.heap.size + 1), 2, none⟩ = some (.int .i64 e1) := (P1_10.out).cell 2
  have cP13 : w10.cell? ⟨(w.heap.size + 1), 3, none⟩ = some (.string n1) := (P1_10.out).cell 3
  go_wp2_with fail
  refine (Go.Proofs.Ytmachabgnbpeaaa.StrT.to_any a2 cap2 l2 _ (R2.out.below B10.out) K2.out).mono ?_
  rintro e w11 ⟨rfl, ⟨cs, hk, -, hh⟩, hb⟩
  have Z_11 : Hid (RdS w11 (some ⟨w10.heap.size, 0, none⟩) l2) := heldS_reads hk hh
  clear hk hh
  have B11 : Hid (Below w.heap.size w w11) := grow_on B10.out hb
  have Z11 : Hid (w10.heap.size ≤ w11.heap.size) := hb.size
  have P0_11 : Hid (Blk w11 w.heap.size #[.slice a0 l0.length cap0, .int .i64 s0, .int .i64 e0, .string n0] 54) := P0_10.out.grow hb
  have P1_11 : Hid (Blk w11 (w.heap.size + 1) #[.slice a1 l1.length cap1, .int .i64 s1, .int .i64 e1, .string n1] 54) := P1_10.out.grow hb
  have Y_11 : Hid (RdS w11 (some ⟨(w6.heap.size + 1), 0, none⟩) l2) := Y_10.out.below hb
  clear hb cP00 cP01 cP02 cP03 cP10 cP11 cP12 cP13
  have cP00 : w11.cell? ⟨w.heap.size, 0, none⟩ = some (.slice a0 l0.length cap0) := (P0_11.out).cell 0
  have cP01 : w11.cell? ⟨w.heap.size, 1, none⟩ = some (.int .i64 s0) := (P0_11.out).cell 1
  have cP02 : w11.cell? ⟨w.heap.size, 2, none⟩ = some (.int .i64 e0) := (P0_11.out).cell 2
  have cP03 : w11.cell? ⟨w.heap.size, 3, none⟩ = some (.string n0) := (P0_11.out).cell 3
  have cP10 : w11.cell? ⟨(w.heap.size + 1), 0, none⟩ = some (.slice a1 l1.length cap1) := (P1_11.out).cell 0
  have cP11 : w11.cell? ⟨(w.heap.size + 1), 1, none⟩ = some (.int .i64 s1) := (P1_11.out).cell 1
  have cP12 : w11.cell? ⟨(w.heap.size + 1), 2, none⟩ = some (.int .i64 e1) := (P1_11.out).cell 2
  have cP13 : w11.cell? ⟨(w.heap.size + 1), 3, none⟩ = some (.string n1) := (P1_11.out).cell 3
  go_wp2_with fail
  refine (Go.Proofs.Ytmachabgnbpeaaa.StrT.eq_any _ _ _ _ l2 _ Y_11.out Z_11.out M2.out).mono ?_
  rintro e w12 ⟨rfl, hb⟩
  have B12 : Hid (Below w.heap.size w w12) := grow_on B11.out hb
  have Z12 : Hid (w11.heap.size ≤ w12.heap.size) := hb.size
  have P0_12 : Hid (Blk w12 w.heap.size #[.slice a0 l0.length cap0, .int .i64 s0, .int .i64 e0, .string n0] 54) := P0_11.out.grow hb
  have P1_12 : Hid (Blk w12 (w.heap.size + 1) #[.slice a1 l1.length cap1, .int .i64 s1, .int .i64 e1, .string n1] 54) := P1_11.out.grow hb
  have Y_12 : Hid (RdS w12 (some ⟨(w6.heap.size + 1), 0, none⟩) l2) := Y_11.out.below hb
  have Z_12 : Hid (RdS w12 (some ⟨w10.heap.size, 0, none⟩) l2) := Z_11.out.below hb
  clear hb cP00 cP01 cP02 cP03 cP10 cP11 cP12 cP13
  have cP00 : w12.cell? ⟨w.heap.size, 0, none⟩ = some (.slice a0 l0.length cap0) := (P0_12.out).cell 0
  have cP01 : w12.cell? ⟨w.heap.size, 1, none⟩ = some (.int .i64 s0) := (P0_12.out).cell 1
  have cP02 : w12.cell? ⟨w.heap.size, 2, none⟩ = some (.int .i64 e0) := (P0_12.out).cell 2
  have cP03 : w12.cell? ⟨w.heap.size, 3, none⟩ = some (.string n0) := (P0_12.out).cell 3
  have cP10 : w12.cell? ⟨(w.heap.size + 1), 0, none⟩ = some (.slice a1 l1.length cap1) := (P1_12.out).cell 0
  have cP11 : w12.cell? ⟨(w.heap.size + 1), 1, none⟩ = some (.int .i64 s1) := (P1_12.out).cell 1
  have cP12 : w12.cell? ⟨(w.heap.size + 1), 2, none⟩ = some (.int .i64 e1) := (P1_12.out).cell 2
  have cP13 : w12.cell? ⟨(w.heap.size + 1), 3, none⟩ = some (.string n1) := (P1_12.out).cell 3
  go_wp2
  go_ret
  exact ⟨rfl, B12.out⟩
theorem own : ownKnob Try.prog.godebug = none := by kernel_rfl
theorem laidOut : laidOutB Try.prog = true := by kernel_rfl
set_option maxRecDepth 100000 in
theorem lifted (os : Os) (started : os.Started) (H : Type) (enc : TypeId × Value → H) :
    ReturnsInHanded {} Try.checked os 7 .any (Rows.fnExactTogetherSpec.pre6 enc Try.prog Try.f7 Rows.fnExactTogetherRow.domain false) (Rows.fnExactTogetherSpec.post enc Try.prog Try.f7 false true false false) := by
  refine returnsInHanded_of_change (C := Try.checked) own started (by kernel_rfl) Try.func7
    (ChangeSpec.witness6 (enc := enc) (C := Try.checked) false ⟨#[], #[.agg #[.slice none 0 0, .int .i64 0, .int .i64 0, .string ⟨#[]⟩], .agg #[.slice none 0 0, .int .i64 0, .int .i64 0, .string ⟨#[]⟩], .slice none 0 0], []⟩ 8 (by kernel_rfl) (by kernel_rfl) (by kernel_rfl) (by kernel_rfl)) ?_
  intro W base args ds gs before hval0 hW hcnd _
  have hval : ∀ (j : Nat) t v, Try.f7.params[j]? = some t → args[j]? = some v → Value.okWide Try.prog W .any base t v := hval0
  have hW' := hW
  obtain ⟨p, q, hA0, hV, rfl, hfz, hnd⟩ := hW
  have hA : DataW.TrodAll enc Try.prog W 0 (fun _ => true) true Try.f7.params.toList args.toList ds p := hA0
  rw [Try.params7] at hA hval
  obtain ⟨v0, vs0, d0, ds0, p0, q0, hargs, rfl, rfl, h0, r0⟩ := trodAll_cons hA
  obtain ⟨v1, vs1, d1, ds1, p1, q1, rfl, rfl, rfl, h1, r1⟩ := trodAll_cons r0
  obtain ⟨v2, vs2, d2, ds2, p2, q2, rfl, rfl, rfl, h2, r2⟩ := trodAll_cons r1
  obtain ⟨rfl, rfl, rfl⟩ := trodAll_nil r2
  obtain rfl : args = #[v0, v1, v2] := by cases args; simp_all
  obtain ⟨rfl, rfl⟩ := trodVars_none hV
  have k0 := h0
  have lt0 : ∀ x ∈ p0, x.block < W.heap.size := by obtain ⟨m, hm⟩ := k0; exact DataW.trod_lt m _ _ _ hm
  obtain ⟨a0, cap0, l0, s0, e0, n0, rfl, w0⟩ := Go.Proofs.Ytmachabgnbpeaaa.Alm.open_alarm (hval 0 54 v0 rfl rfl) h0
  have k1 := h1
  have lt1 : ∀ x ∈ p1, x.block < W.heap.size := by obtain ⟨m, hm⟩ := k1; exact DataW.trod_lt m _ _ _ hm
  obtain ⟨a1, cap1, l1, s1, e1, n1, rfl, w1⟩ := Go.Proofs.Ytmachabgnbpeaaa.Alm.open_alarm (hval 1 54 v1 rfl rfl) h1
  obtain ⟨a2, len2, cap2, rfl⟩ := okWide_slice Try.underlying25 (hval 2 25 v2 rfl rfl)
  have k2 := h2
  have lt2 : ∀ x ∈ p2, x.block < W.heap.size := by obtain ⟨m, hm⟩ := k2; exact DataW.trod_lt m _ _ _ hm
  obtain ⟨l2, rfl, w2, m2, f2⟩ := Go.Proofs.Ytmachabgnbpeaaa.StrT.open_strs h2
  clear hA0 hval0
  refine (walk a0 cap0 l0 s0 e0 n0 a1 cap1 l1 s1 e1 n1 a2 cap2 l2 W w0 w1 w2 m2 f2).mono fun e W' ⟨he, bel⟩ => ?_
  subst he
  exact ⟨_, rfl, _, _, _, [], _, [], hW', trodAll_mk1 (shut_bool Try.underlying4 _), (trodAll_cons_mk (Below.trod laidOut (by kernel_rfl) (of_decide_eq_true (by kernel_rfl)) k0 bel lt0) (trodAll_cons_mk (Below.trod laidOut (by kernel_rfl) (of_decide_eq_true (by kernel_rfl)) k1 bel lt1) (trodAll_cons_mk (Below.trod laidOut (by kernel_rfl) (of_decide_eq_true (by kernel_rfl)) k2 bel lt2) trodAll_mk0))), rfl, bel.frame _, fun h => by cases h⟩

theorem over : Rows.fnExactTogetherRow.holds Try.pinned (OpenSpec.ofChange Rows.fnExactTogetherSpec) :=
  OpenClaim.holds_of_wide 7 Try.f7 rfl rfl rfl rfl rfl rfl rfl ⟨rfl, rfl, rfl, rfl, rfl⟩ rfl rfl rfl rfl rfl (by kernel_rfl) Try.func7 (by kernel_rfl)
    (of_decide_eq_true (by kernel_rfl)) (by unfold Func.isWrapper; first | (rw [if_pos (by decide +kernel)]; kernel_rfl) | (rw [if_neg (by decide +kernel)]; exact ⟨rfl, rfl⟩))
    (fun os started H enc _ => lifted os started H enc)

end Go.Proofs.Ytmachabgnbpeaaa.FnExactTogether
namespace Go.Proofs.Ytmachabgnbpeaaa
theorem fnExactTogether_holds : Rows.FnExactTogetherSaid := FnExactTogether.over
#print axioms fnExactTogether_holds
end Go.Proofs.Ytmachabgnbpeaaa
