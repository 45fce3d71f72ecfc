/-
  PROVED: at every two alarms impl.SameAlarm answers as spec.SameAlarm and leaves them as they were, so the law laws.FnExactSameAlarm returns true, whatever its arguments. No condition.
-/
import Derived.Test.YtinegehejinmiabRows
import Derived.WalkKit
import Derived.ProofKit
import Derived.OpenShut
import Derived.ShutString
import Derived.ChangeOld
import Derived.Below
import Derived.WalkLawsBesides
import Derived.WalkSpells
import Derived.Test.YtinegehejinmiabAlmS
import Derived.Deep.RegionHeld3
namespace Go.Proofs.Ytinegehejinmiab.FnExactSameAlarm
open Go.ChangeShapes Go.WideShapes Go.ChangeAt Go.RowKit
open Go.ChangeMaps (open_string shut_string)
set_option linter.unusedVariables false

open Go.Proofs.Ytinegehejinmiab.Labs Go.Proofs.Ytinegehejinmiab.LabS Go.Proofs.Ytinegehejinmiab.LabT Go.Proofs.Ytinegehejinmiab.Over Go.Proofs.Ytinegehejinmiab.Alm Go.Proofs.Ytinegehejinmiab.Blk
open Go.Proofs.Ytinegehejinmiab.AlmS

set_option maxHeartbeats 1600000 in
theorem walk (a0 : Option Addr) (cap0 : Nat) (l0 : List Lab) (s0 e0 : Int) (n0 : ByteArray) (a1 : Option Addr) (cap1 : Nat) (l1 : List Lab) (s1 e1 : Int) (n1 : ByteArray) (w : World) (g0 : AlIn w a0 l0 s0 e0 n0) (g1 : AlIn w a1 l1 s1 e1 n1) :
    Calls Try.prog 3 #[.agg #[.slice a0 l0.length cap0, .int .i64 s0, .int .i64 e0, .string n0], .agg #[.slice a1 l1.length cap1, .int .i64 s1, .int .i64 e1, .string n1]] w fun e w' => e = .returned (.bool true) ∧ Below w.heap.size w w' := by
  have R0 : Hid (Reads w a0 l0) := g0.reads
  have M0 : Hid (l0.length ≤ maxLen) := g0.len
  have G0 : Hid (AlIn w a0 l0 s0 e0 n0) := g0
  clear g0
  have R1 : Hid (Reads w a1 l1) := g1.reads
  have M1 : Hid (l1.length ≤ maxLen) := g1.len
  have G1 : Hid (AlIn w a1 l1 s1 e1 n1) := g1
  clear g1
  have B0 : Hid (Below w.heap.size w w) := Below.refl _ _
  go_enter Try.func3, Try.ntmps3
  go_wp2_with fail
  refine (Go.Proofs.Ytinegehejinmiab.Alm.sz_any a0 cap0 l0 s0 e0 n0 1048576 _ (G0.out.below (Go.Joins.below_alloc2 w _ _)) (by omega) (by omega)).mono ?_
  rintro e w1 ⟨⟨k0, rfl, p0, hn⟩, hb⟩
  have P0_1 : Hid (Blk w1 w.heap.size #[.slice a0 l0.length cap0, .int .i64 s0, .int .i64 e0, .string n0] 24) := ((Blk.new _ _ _).alloc _).grow hb
  have P1_1 : Hid (Blk w1 (w.heap.size + 1) #[.slice a1 l1.length cap1, .int .i64 s1, .int .i64 e1, .string n1] 24) := (Blk.new_at (by simp)).grow hb
  replace hb := grow_on (Go.Joins.below_alloc2 w _ _) hb
  have B1 : Hid (Below w.heap.size w w1) := grow_on B0.out hb
  clear hb
  by_cases g0 : k0 < 0
  · clear hn
    go_wp2
    go_ret
    exact ⟨rfl, B1.out⟩
  have K0 : Hid (l0.length ≤ 1048576) := by have := hn (by omega); show l0.length ≤ 1048576; omega
  clear hn
  have cP00 : w1.cell? ⟨w.heap.size, 0, none⟩ = some (.slice a0 l0.length cap0) := (P0_1.out).cell 0
  have cP01 : w1.cell? ⟨w.heap.size, 1, none⟩ = some (.int .i64 s0) := (P0_1.out).cell 1
  have cP02 : w1.cell? ⟨w.heap.size, 2, none⟩ = some (.int .i64 e0) := (P0_1.out).cell 2
  have cP03 : w1.cell? ⟨w.heap.size, 3, none⟩ = some (.string n0) := (P0_1.out).cell 3
  have cP10 : w1.cell? ⟨(w.heap.size + 1), 0, none⟩ = some (.slice a1 l1.length cap1) := (P1_1.out).cell 0
  have cP11 : w1.cell? ⟨(w.heap.size + 1), 1, none⟩ = some (.int .i64 s1) := (P1_1.out).cell 1
  have cP12 : w1.cell? ⟨(w.heap.size + 1), 2, none⟩ = some (.int .i64 e1) := (P1_1.out).cell 2
  have cP13 : w1.cell? ⟨(w.heap.size + 1), 3, none⟩ = some (.string n1) := (P1_1.out).cell 3
  go_wp2_with fail
  refine (Go.Proofs.Ytinegehejinmiab.Alm.sz_any a1 cap1 l1 s1 e1 n1 k0 _ (G1.out.below B1.out) (by omega) (by omega)).mono ?_
  rintro e w2 ⟨⟨k1, rfl, p1, hn⟩, hb⟩
  clear cP00 cP01 cP02 cP03 cP10 cP11 cP12 cP13
  have B2 : Hid (Below w.heap.size w w2) := grow_on B1.out hb
  have P0_2 : Hid (Blk w2 w.heap.size #[.slice a0 l0.length cap0, .int .i64 s0, .int .i64 e0, .string n0] 24) := P0_1.out.grow hb
  have P1_2 : Hid (Blk w2 (w.heap.size + 1) #[.slice a1 l1.length cap1, .int .i64 s1, .int .i64 e1, .string n1] 24) := P1_1.out.grow hb
  clear hb
  by_cases g1 : k1 < 0
  · clear hn
    go_wp2
    go_ret
    exact ⟨rfl, B2.out⟩
  have K1 : Hid (l1.length ≤ 1048576) := by have := hn (by omega); show l1.length ≤ 1048576; omega
  clear hn
  have cP00 : w2.cell? ⟨w.heap.size, 0, none⟩ = some (.slice a0 l0.length cap0) := (P0_2.out).cell 0
  have cP01 : w2.cell? ⟨w.heap.size, 1, none⟩ = some (.int .i64 s0) := (P0_2.out).cell 1
  have cP02 : w2.cell? ⟨w.heap.size, 2, none⟩ = some (.int .i64 e0) := (P0_2.out).cell 2
  have cP03 : w2.cell? ⟨w.heap.size, 3, none⟩ = some (.string n0) := (P0_2.out).cell 3
  have cP10 : w2.cell? ⟨(w.heap.size + 1), 0, none⟩ = some (.slice a1 l1.length cap1) := (P1_2.out).cell 0
  have cP11 : w2.cell? ⟨(w.heap.size + 1), 1, none⟩ = some (.int .i64 s1) := (P1_2.out).cell 1
  have cP12 : w2.cell? ⟨(w.heap.size + 1), 2, none⟩ = some (.int .i64 e1) := (P1_2.out).cell 2
  have cP13 : w2.cell? ⟨(w.heap.size + 1), 3, none⟩ = some (.string n1) := (P1_2.out).cell 3
  go_wp2
  have kz : Below w2.heap.size w2 w2.drew := (Below.refl _ _).drew
  have kP0 := P0_2.out.lt
  have kP1 := P1_2.out.lt
  go_region_held3 (fun w' => Below w2.heap.size w2 w' ∧ w'.cell? ⟨w.heap.size, 0, none⟩ = some (.slice a0 l0.length cap0) ∧ w'.cell? ⟨w.heap.size, 1, none⟩ = some (.int .i64 s0) ∧ w'.cell? ⟨w.heap.size, 2, none⟩ = some (.int .i64 e0) ∧ w'.cell? ⟨w.heap.size, 3, none⟩ = some (.string n0) ∧ w'.cell? ⟨(w.heap.size + 1), 0, none⟩ = some (.slice a1 l1.length cap1) ∧ w'.cell? ⟨(w.heap.size + 1), 1, none⟩ = some (.int .i64 s1) ∧ w'.cell? ⟨(w.heap.size + 1), 2, none⟩ = some (.int .i64 e1) ∧ w'.cell? ⟨(w.heap.size + 1), 3, none⟩ = some (.string n1)) (first | go_keep | (go_split_ands; (have hq := (grow_on (grow_on (grow_on kz hy0) hy1) hy2)); exact ⟨hq, (hq.cell kP0).trans cP00, (hq.cell kP0).trans cP01, (hq.cell kP0).trans cP02, (hq.cell kP0).trans cP03, (hq.cell kP1).trans cP10, (hq.cell kP1).trans cP11, (hq.cell kP1).trans cP12, (hq.cell kP1).trans cP13⟩) | (go_split_ands; (have hq := (grow_on (grow_on kz hy0) hy1)); exact ⟨hq, (hq.cell kP0).trans cP00, (hq.cell kP0).trans cP01, (hq.cell kP0).trans cP02, (hq.cell kP0).trans cP03, (hq.cell kP1).trans cP10, (hq.cell kP1).trans cP11, (hq.cell kP1).trans cP12, (hq.cell kP1).trans cP13⟩) | (go_split_ands; (have hq := (grow_on kz hy0)); exact ⟨hq, (hq.cell kP0).trans cP00, (hq.cell kP0).trans cP01, (hq.cell kP0).trans cP02, (hq.cell kP0).trans cP03, (hq.cell kP1).trans cP10, (hq.cell kP1).trans cP11, (hq.cell kP1).trans cP12, (hq.cell kP1).trans cP13⟩)) (first | (go_at_call 9; with_reducible refine (Go.Proofs.Ytinegehejinmiab.Alm.to_any a0 cap0 l0 s0 e0 n0 _ (R0.out.below (grow_on B2.out kz)) K0.out).mono ?_; rintro e wy0 ⟨⟨S0M, cs0, rfl, -, hk0, -, hh0⟩, hy0⟩) | (go_at_call 9; with_reducible refine (Go.Proofs.Ytinegehejinmiab.Alm.to_any a1 cap1 l1 s1 e1 n1 _ (R1.out.below (grow_on B2.out (grow_on kz hy0))) K1.out).mono ?_; rintro e wy1 ⟨⟨S1M, cs1, rfl, -, hk1, -, hh1⟩, hy1⟩) | (go_at_call 8; refine (specSameA_any _ _ _ _ l0 l1 s0 e0 s1 e1 n0 n1 _ ((held_reads hk0 hh0).below hy1) (held_reads hk1 hh1) M0.out M1.out).mono ?_; rintro e w3 ⟨rfl, hy2⟩))
  have hb := (grow_on (grow_on (grow_on kz hy0) hy1) hy2)
  have B3 : Hid (Below w.heap.size w w3) := grow_on B2.out hb
  have P0_3 : Hid (Blk w3 w.heap.size #[.slice a0 l0.length cap0, .int .i64 s0, .int .i64 e0, .string n0] 24) := P0_2.out.grow hb
  have P1_3 : Hid (Blk w3 (w.heap.size + 1) #[.slice a1 l1.length cap1, .int .i64 s1, .int .i64 e1, .string n1] 24) := P1_2.out.grow hb
  clear hb kz hy0 hy1 hy2 hk0 hh0 hk1 hh1 cP00 cP01 cP02 cP03 cP10 cP11 cP12 cP13 kP0 kP1
  have cP00 : w3.cell? ⟨w.heap.size, 0, none⟩ = some (.slice a0 l0.length cap0) := (P0_3.out).cell 0
  have cP01 : w3.cell? ⟨w.heap.size, 1, none⟩ = some (.int .i64 s0) := (P0_3.out).cell 1
  have cP02 : w3.cell? ⟨w.heap.size, 2, none⟩ = some (.int .i64 e0) := (P0_3.out).cell 2
  have cP03 : w3.cell? ⟨w.heap.size, 3, none⟩ = some (.string n0) := (P0_3.out).cell 3
  have cP10 : w3.cell? ⟨(w.heap.size + 1), 0, none⟩ = some (.slice a1 l1.length cap1) := (P1_3.out).cell 0
  have cP11 : w3.cell? ⟨(w.heap.size + 1), 1, none⟩ = some (.int .i64 s1) := (P1_3.out).cell 1
  have cP12 : w3.cell? ⟨(w.heap.size + 1), 2, none⟩ = some (.int .i64 e1) := (P1_3.out).cell 2
  have cP13 : w3.cell? ⟨(w.heap.size + 1), 3, none⟩ = some (.string n1) := (P1_3.out).cell 3
  go_wp2_with fail
  refine (Go.Proofs.Ytinegehejinmiab.Alm.to_any a0 cap0 l0 s0 e0 n0 _ (R0.out.below B3.out) K0.out).mono ?_
  rintro e w4 ⟨⟨X0M, cs, rfl, -, hk, -, hh⟩, hb⟩
  clear cP00 cP01 cP02 cP03 cP10 cP11 cP12 cP13
  have B4 : Hid (Below w.heap.size w w4) := grow_on B3.out hb
  have P0_4 : Hid (Blk w4 w.heap.size #[.slice a0 l0.length cap0, .int .i64 s0, .int .i64 e0, .string n0] 24) := P0_3.out.grow hb
  have P1_4 : Hid (Blk w4 (w.heap.size + 1) #[.slice a1 l1.length cap1, .int .i64 s1, .int .i64 e1, .string n1] 24) := P1_3.out.grow hb
  have X0_4 : Hid (Reads w4 (some ⟨X0M, 0, none⟩) l0) := held_reads hk hh
  clear hk hh
  clear hb
  have cP00 : (w4.alloc (.cells #[.slice (some ⟨X0M, 0, none⟩) l0.length l0.length, .int .i64 s0, .int .i64 e0, .string n0] 29)).cell? ⟨w.heap.size, 0, none⟩ = some (.slice a0 l0.length cap0) := (P0_4.out.alloc _).cell 0
  have cP01 : (w4.alloc (.cells #[.slice (some ⟨X0M, 0, none⟩) l0.length l0.length, .int .i64 s0, .int .i64 e0, .string n0] 29)).cell? ⟨w.heap.size, 1, none⟩ = some (.int .i64 s0) := (P0_4.out.alloc _).cell 1
  have cP02 : (w4.alloc (.cells #[.slice (some ⟨X0M, 0, none⟩) l0.length l0.length, .int .i64 s0, .int .i64 e0, .string n0] 29)).cell? ⟨w.heap.size, 2, none⟩ = some (.int .i64 e0) := (P0_4.out.alloc _).cell 2
  have cP03 : (w4.alloc (.cells #[.slice (some ⟨X0M, 0, none⟩) l0.length l0.length, .int .i64 s0, .int .i64 e0, .string n0] 29)).cell? ⟨w.heap.size, 3, none⟩ = some (.string n0) := (P0_4.out.alloc _).cell 3
  have cP10 : (w4.alloc (.cells #[.slice (some ⟨X0M, 0, none⟩) l0.length l0.length, .int .i64 s0, .int .i64 e0, .string n0] 29)).cell? ⟨(w.heap.size + 1), 0, none⟩ = some (.slice a1 l1.length cap1) := (P1_4.out.alloc _).cell 0
  have cP11 : (w4.alloc (.cells #[.slice (some ⟨X0M, 0, none⟩) l0.length l0.length, .int .i64 s0, .int .i64 e0, .string n0] 29)).cell? ⟨(w.heap.size + 1), 1, none⟩ = some (.int .i64 s1) := (P1_4.out.alloc _).cell 1
  have cP12 : (w4.alloc (.cells #[.slice (some ⟨X0M, 0, none⟩) l0.length l0.length, .int .i64 s0, .int .i64 e0, .string n0] 29)).cell? ⟨(w.heap.size + 1), 2, none⟩ = some (.int .i64 e1) := (P1_4.out.alloc _).cell 2
  have cP13 : (w4.alloc (.cells #[.slice (some ⟨X0M, 0, none⟩) l0.length l0.length, .int .i64 s0, .int .i64 e0, .string n0] 29)).cell? ⟨(w.heap.size + 1), 3, none⟩ = some (.string n1) := (P1_4.out.alloc _).cell 3
  go_wp2_with fail
  refine (Go.Proofs.Ytinegehejinmiab.Alm.to_any a1 cap1 l1 s1 e1 n1 _ (R1.out.below (grow_on B4.out (Go.Joins.below_alloc1 w4 _))) K1.out).mono ?_
  rintro e w5 ⟨⟨X1M, cs, rfl, -, hk, -, hh⟩, hb⟩
  clear cP00 cP01 cP02 cP03 cP10 cP11 cP12 cP13
  have Q0_5 : Hid (Blk w5 w4.heap.size #[.slice (some ⟨X0M, 0, none⟩) l0.length l0.length, .int .i64 s0, .int .i64 e0, .string n0] 29) := (Blk.new _ _ _).grow hb
  replace hb := grow_on (Go.Joins.below_alloc1 w4 _) hb
  have B5 : Hid (Below w.heap.size w w5) := grow_on B4.out hb
  have P0_5 : Hid (Blk w5 w.heap.size #[.slice a0 l0.length cap0, .int .i64 s0, .int .i64 e0, .string n0] 24) := P0_4.out.grow hb
  have P1_5 : Hid (Blk w5 (w.heap.size + 1) #[.slice a1 l1.length cap1, .int .i64 s1, .int .i64 e1, .string n1] 24) := P1_4.out.grow hb
  have X0_5 : Hid (Reads w5 (some ⟨X0M, 0, none⟩) l0) := X0_4.out.below hb
  have X1_5 : Hid (Reads w5 (some ⟨X1M, 0, none⟩) l1) := held_reads hk hh
  clear hk hh
  clear hb
  have cP00 : (w5.alloc (.cells #[.slice (some ⟨X1M, 0, none⟩) l1.length l1.length, .int .i64 s1, .int .i64 e1, .string n1] 29)).cell? ⟨w.heap.size, 0, none⟩ = some (.slice a0 l0.length cap0) := (P0_5.out.alloc _).cell 0
  have cP01 : (w5.alloc (.cells #[.slice (some ⟨X1M, 0, none⟩) l1.length l1.length, .int .i64 s1, .int .i64 e1, .string n1] 29)).cell? ⟨w.heap.size, 1, none⟩ = some (.int .i64 s0) := (P0_5.out.alloc _).cell 1
  have cP02 : (w5.alloc (.cells #[.slice (some ⟨X1M, 0, none⟩) l1.length l1.length, .int .i64 s1, .int .i64 e1, .string n1] 29)).cell? ⟨w.heap.size, 2, none⟩ = some (.int .i64 e0) := (P0_5.out.alloc _).cell 2
  have cP03 : (w5.alloc (.cells #[.slice (some ⟨X1M, 0, none⟩) l1.length l1.length, .int .i64 s1, .int .i64 e1, .string n1] 29)).cell? ⟨w.heap.size, 3, none⟩ = some (.string n0) := (P0_5.out.alloc _).cell 3
  have cP10 : (w5.alloc (.cells #[.slice (some ⟨X1M, 0, none⟩) l1.length l1.length, .int .i64 s1, .int .i64 e1, .string n1] 29)).cell? ⟨(w.heap.size + 1), 0, none⟩ = some (.slice a1 l1.length cap1) := (P1_5.out.alloc _).cell 0
  have cP11 : (w5.alloc (.cells #[.slice (some ⟨X1M, 0, none⟩) l1.length l1.length, .int .i64 s1, .int .i64 e1, .string n1] 29)).cell? ⟨(w.heap.size + 1), 1, none⟩ = some (.int .i64 s1) := (P1_5.out.alloc _).cell 1
  have cP12 : (w5.alloc (.cells #[.slice (some ⟨X1M, 0, none⟩) l1.length l1.length, .int .i64 s1, .int .i64 e1, .string n1] 29)).cell? ⟨(w.heap.size + 1), 2, none⟩ = some (.int .i64 e1) := (P1_5.out.alloc _).cell 2
  have cP13 : (w5.alloc (.cells #[.slice (some ⟨X1M, 0, none⟩) l1.length l1.length, .int .i64 s1, .int .i64 e1, .string n1] 29)).cell? ⟨(w.heap.size + 1), 3, none⟩ = some (.string n1) := (P1_5.out.alloc _).cell 3
  have cQ00 : (w5.alloc (.cells #[.slice (some ⟨X1M, 0, none⟩) l1.length l1.length, .int .i64 s1, .int .i64 e1, .string n1] 29)).cell? ⟨w4.heap.size, 0, none⟩ = some (.slice (some ⟨X0M, 0, none⟩) l0.length l0.length) := (Q0_5.out.alloc _).cell 0
  have cQ01 : (w5.alloc (.cells #[.slice (some ⟨X1M, 0, none⟩) l1.length l1.length, .int .i64 s1, .int .i64 e1, .string n1] 29)).cell? ⟨w4.heap.size, 1, none⟩ = some (.int .i64 s0) := (Q0_5.out.alloc _).cell 1
  have cQ02 : (w5.alloc (.cells #[.slice (some ⟨X1M, 0, none⟩) l1.length l1.length, .int .i64 s1, .int .i64 e1, .string n1] 29)).cell? ⟨w4.heap.size, 2, none⟩ = some (.int .i64 e0) := (Q0_5.out.alloc _).cell 2
  have cQ03 : (w5.alloc (.cells #[.slice (some ⟨X1M, 0, none⟩) l1.length l1.length, .int .i64 s1, .int .i64 e1, .string n1] 29)).cell? ⟨w4.heap.size, 3, none⟩ = some (.string n0) := (Q0_5.out.alloc _).cell 3
  go_wp2_with fail
  refine (implSameA_any _ _ _ _ l0 l1 s0 e0 s1 e1 n0 n1 _ (X0_5.out.below (Go.Joins.below_alloc1 w5 _)) (X1_5.out.below (Go.Joins.below_alloc1 w5 _)) M0.out M1.out).mono ?_
  rintro e w6 ⟨rfl, hb⟩
  clear cP00 cP01 cP02 cP03 cP10 cP11 cP12 cP13 cQ00 cQ01 cQ02 cQ03
  have Q1_6 : Hid (Blk w6 w5.heap.size #[.slice (some ⟨X1M, 0, none⟩) l1.length l1.length, .int .i64 s1, .int .i64 e1, .string n1] 29) := (Blk.new _ _ _).grow hb
  replace hb := grow_on (Go.Joins.below_alloc1 w5 _) hb
  have B6 : Hid (Below w.heap.size w w6) := grow_on B5.out hb
  have P0_6 : Hid (Blk w6 w.heap.size #[.slice a0 l0.length cap0, .int .i64 s0, .int .i64 e0, .string n0] 24) := P0_5.out.grow hb
  have P1_6 : Hid (Blk w6 (w.heap.size + 1) #[.slice a1 l1.length cap1, .int .i64 s1, .int .i64 e1, .string n1] 24) := P1_5.out.grow hb
  have X0_6 : Hid (Reads w6 (some ⟨X0M, 0, none⟩) l0) := X0_5.out.below hb
  have Q0_6 : Hid (Blk w6 w4.heap.size #[.slice (some ⟨X0M, 0, none⟩) l0.length l0.length, .int .i64 s0, .int .i64 e0, .string n0] 29) := Q0_5.out.grow hb
  have X1_6 : Hid (Reads w6 (some ⟨X1M, 0, none⟩) l1) := X1_5.out.below hb
  clear hb
  have cP00 : w6.cell? ⟨w.heap.size, 0, none⟩ = some (.slice a0 l0.length cap0) := (P0_6.out).cell 0
  have cP01 : w6.cell? ⟨w.heap.size, 1, none⟩ = some (.int .i64 s0) := (P0_6.out).cell 1
  have cP02 : w6.cell? ⟨w.heap.size, 2, none⟩ = some (.int .i64 e0) := (P0_6.out).cell 2
  have cP03 : w6.cell? ⟨w.heap.size, 3, none⟩ = some (.string n0) := (P0_6.out).cell 3
  have cP10 : w6.cell? ⟨(w.heap.size + 1), 0, none⟩ = some (.slice a1 l1.length cap1) := (P1_6.out).cell 0
  have cP11 : w6.cell? ⟨(w.heap.size + 1), 1, none⟩ = some (.int .i64 s1) := (P1_6.out).cell 1
  have cP12 : w6.cell? ⟨(w.heap.size + 1), 2, none⟩ = some (.int .i64 e1) := (P1_6.out).cell 2
  have cP13 : w6.cell? ⟨(w.heap.size + 1), 3, none⟩ = some (.string n1) := (P1_6.out).cell 3
  have cQ00 : w6.cell? ⟨w4.heap.size, 0, none⟩ = some (.slice (some ⟨X0M, 0, none⟩) l0.length l0.length) := (Q0_6.out).cell 0
  have cQ01 : w6.cell? ⟨w4.heap.size, 1, none⟩ = some (.int .i64 s0) := (Q0_6.out).cell 1
  have cQ02 : w6.cell? ⟨w4.heap.size, 2, none⟩ = some (.int .i64 e0) := (Q0_6.out).cell 2
  have cQ03 : w6.cell? ⟨w4.heap.size, 3, none⟩ = some (.string n0) := (Q0_6.out).cell 3
  have cQ10 : w6.cell? ⟨w5.heap.size, 0, none⟩ = some (.slice (some ⟨X1M, 0, none⟩) l1.length l1.length) := (Q1_6.out).cell 0
  have cQ11 : w6.cell? ⟨w5.heap.size, 1, none⟩ = some (.int .i64 s1) := (Q1_6.out).cell 1
  have cQ12 : w6.cell? ⟨w5.heap.size, 2, none⟩ = some (.int .i64 e1) := (Q1_6.out).cell 2
  have cQ13 : w6.cell? ⟨w5.heap.size, 3, none⟩ = some (.string n1) := (Q1_6.out).cell 3
  have e0' : Go.Proofs.Ytinegehejinmiab.Alm.sameB l0 s0 e0 n0 l0 s0 e0 n0 = true := Go.Proofs.Ytinegehejinmiab.Alm.same_self _ _ _ _
  go_wp2
  have kz : Below w6.heap.size w6 w6.drew := (Below.refl _ _).drew
  have kP0 := P0_6.out.lt
  have kQ0 := Q0_6.out.lt
  go_region_held3 (fun w' => Below w6.heap.size w6 w' ∧ w'.cell? ⟨w.heap.size, 0, none⟩ = some (.slice a0 l0.length cap0) ∧ w'.cell? ⟨w.heap.size, 1, none⟩ = some (.int .i64 s0) ∧ w'.cell? ⟨w.heap.size, 2, none⟩ = some (.int .i64 e0) ∧ w'.cell? ⟨w.heap.size, 3, none⟩ = some (.string n0) ∧ w'.cell? ⟨w4.heap.size, 0, none⟩ = some (.slice (some ⟨X0M, 0, none⟩) l0.length l0.length) ∧ w'.cell? ⟨w4.heap.size, 1, none⟩ = some (.int .i64 s0) ∧ w'.cell? ⟨w4.heap.size, 2, none⟩ = some (.int .i64 e0) ∧ w'.cell? ⟨w4.heap.size, 3, none⟩ = some (.string n0)) (first | go_keep | (go_split_ands; (have hq := grow_on kz hy1); exact ⟨hq, (hq.cell kP0).trans cP00, (hq.cell kP0).trans cP01, (hq.cell kP0).trans cP02, (hq.cell kP0).trans cP03, (hq.cell kQ0).trans cQ00, (hq.cell kQ0).trans cQ01, (hq.cell kQ0).trans cQ02, (hq.cell kQ0).trans cQ03⟩) | (go_split_ands; (have hq := grow_on (grow_on kz hy1) hy2); exact ⟨hq, (hq.cell kP0).trans cP00, (hq.cell kP0).trans cP01, (hq.cell kP0).trans cP02, (hq.cell kP0).trans cP03, (hq.cell kQ0).trans cQ00, (hq.cell kQ0).trans cQ01, (hq.cell kQ0).trans cQ02, (hq.cell kQ0).trans cQ03⟩)) (first | (go_at_call 9; refine (Go.Proofs.Ytinegehejinmiab.Alm.to_any a0 cap0 l0 s0 e0 n0 _ (R0.out.below (grow_on B6.out kz)) K0.out).mono ?_; rintro e wy ⟨⟨YM, cs, rfl, -, hk, -, hh⟩, hy1⟩) | (go_at_call 11; refine (Go.Proofs.Ytinegehejinmiab.Alm.eq_any _ _ _ _ l0 l0 s0 e0 s0 e0 n0 n0 _ (X0_6.out.below (grow_on kz hy1)) (held_reads hk hh) M0.out M0.out).mono ?_; rintro e w7 ⟨rfl, hy2⟩))
  have hb := grow_on (grow_on kz hy1) hy2
  have B7 : Hid (Below w.heap.size w w7) := grow_on B6.out hb
  have P0_7 : Hid (Blk w7 w.heap.size #[.slice a0 l0.length cap0, .int .i64 s0, .int .i64 e0, .string n0] 24) := P0_6.out.grow hb
  have P1_7 : Hid (Blk w7 (w.heap.size + 1) #[.slice a1 l1.length cap1, .int .i64 s1, .int .i64 e1, .string n1] 24) := P1_6.out.grow hb
  have X1_7 : Hid (Reads w7 (some ⟨X1M, 0, none⟩) l1) := X1_6.out.below hb
  have Q1_7 : Hid (Blk w7 w5.heap.size #[.slice (some ⟨X1M, 0, none⟩) l1.length l1.length, .int .i64 s1, .int .i64 e1, .string n1] 29) := Q1_6.out.grow hb
  clear hb hy1 hy2 kz hk hh cP00 cP01 cP02 cP03 cP10 cP11 cP12 cP13 cQ00 cQ01 cQ02 cQ03 cQ10 cQ11 cQ12 cQ13 kP0 kQ0
  have cP00 : w7.cell? ⟨w.heap.size, 0, none⟩ = some (.slice a0 l0.length cap0) := (P0_7.out).cell 0
  have cP01 : w7.cell? ⟨w.heap.size, 1, none⟩ = some (.int .i64 s0) := (P0_7.out).cell 1
  have cP02 : w7.cell? ⟨w.heap.size, 2, none⟩ = some (.int .i64 e0) := (P0_7.out).cell 2
  have cP03 : w7.cell? ⟨w.heap.size, 3, none⟩ = some (.string n0) := (P0_7.out).cell 3
  have cP10 : w7.cell? ⟨(w.heap.size + 1), 0, none⟩ = some (.slice a1 l1.length cap1) := (P1_7.out).cell 0
  have cP11 : w7.cell? ⟨(w.heap.size + 1), 1, none⟩ = some (.int .i64 s1) := (P1_7.out).cell 1
  have cP12 : w7.cell? ⟨(w.heap.size + 1), 2, none⟩ = some (.int .i64 e1) := (P1_7.out).cell 2
  have cP13 : w7.cell? ⟨(w.heap.size + 1), 3, none⟩ = some (.string n1) := (P1_7.out).cell 3
  have cQ10 : w7.cell? ⟨w5.heap.size, 0, none⟩ = some (.slice (some ⟨X1M, 0, none⟩) l1.length l1.length) := (Q1_7.out).cell 0
  have cQ11 : w7.cell? ⟨w5.heap.size, 1, none⟩ = some (.int .i64 s1) := (Q1_7.out).cell 1
  have cQ12 : w7.cell? ⟨w5.heap.size, 2, none⟩ = some (.int .i64 e1) := (Q1_7.out).cell 2
  have cQ13 : w7.cell? ⟨w5.heap.size, 3, none⟩ = some (.string n1) := (Q1_7.out).cell 3
  have e1' : Go.Proofs.Ytinegehejinmiab.Alm.sameB l1 s1 e1 n1 l1 s1 e1 n1 = true := Go.Proofs.Ytinegehejinmiab.Alm.same_self _ _ _ _
  go_wp2
  have kz : Below w7.heap.size w7 w7.drew := (Below.refl _ _).drew
  have kP1 := P1_7.out.lt
  have kQ1 := Q1_7.out.lt
  go_region_held3 (fun w' => Below w7.heap.size w7 w' ∧ w'.cell? ⟨(w.heap.size + 1), 0, none⟩ = some (.slice a1 l1.length cap1) ∧ w'.cell? ⟨(w.heap.size + 1), 1, none⟩ = some (.int .i64 s1) ∧ w'.cell? ⟨(w.heap.size + 1), 2, none⟩ = some (.int .i64 e1) ∧ w'.cell? ⟨(w.heap.size + 1), 3, none⟩ = some (.string n1) ∧ w'.cell? ⟨w5.heap.size, 0, none⟩ = some (.slice (some ⟨X1M, 0, none⟩) l1.length l1.length) ∧ w'.cell? ⟨w5.heap.size, 1, none⟩ = some (.int .i64 s1) ∧ w'.cell? ⟨w5.heap.size, 2, none⟩ = some (.int .i64 e1) ∧ w'.cell? ⟨w5.heap.size, 3, none⟩ = some (.string n1)) (first | go_keep | (go_split_ands; (have hq := grow_on kz hy1); exact ⟨hq, (hq.cell kP1).trans cP10, (hq.cell kP1).trans cP11, (hq.cell kP1).trans cP12, (hq.cell kP1).trans cP13, (hq.cell kQ1).trans cQ10, (hq.cell kQ1).trans cQ11, (hq.cell kQ1).trans cQ12, (hq.cell kQ1).trans cQ13⟩) | (go_split_ands; (have hq := grow_on (grow_on kz hy1) hy2); exact ⟨hq, (hq.cell kP1).trans cP10, (hq.cell kP1).trans cP11, (hq.cell kP1).trans cP12, (hq.cell kP1).trans cP13, (hq.cell kQ1).trans cQ10, (hq.cell kQ1).trans cQ11, (hq.cell kQ1).trans cQ12, (hq.cell kQ1).trans cQ13⟩)) (first | (go_at_call 9; refine (Go.Proofs.Ytinegehejinmiab.Alm.to_any a1 cap1 l1 s1 e1 n1 _ (R1.out.below (grow_on B7.out kz)) K1.out).mono ?_; rintro e wy ⟨⟨YM, cs, rfl, -, hk, -, hh⟩, hy1⟩) | (go_at_call 11; refine (Go.Proofs.Ytinegehejinmiab.Alm.eq_any _ _ _ _ l1 l1 s1 e1 s1 e1 n1 n1 _ (X1_7.out.below (grow_on kz hy1)) (held_reads hk hh) M1.out M1.out).mono ?_; rintro e w8 ⟨rfl, hy2⟩))
  have hb := grow_on (grow_on kz hy1) hy2
  have B8 : Hid (Below w.heap.size w w8) := grow_on B7.out hb
  have P0_8 : Hid (Blk w8 w.heap.size #[.slice a0 l0.length cap0, .int .i64 s0, .int .i64 e0, .string n0] 24) := P0_7.out.grow hb
  have P1_8 : Hid (Blk w8 (w.heap.size + 1) #[.slice a1 l1.length cap1, .int .i64 s1, .int .i64 e1, .string n1] 24) := P1_7.out.grow hb
  clear hb hy1 hy2 kz hk hh cP00 cP01 cP02 cP03 cP10 cP11 cP12 cP13 cQ10 cQ11 cQ12 cQ13 kP1 kQ1
  have cP00 : w8.cell? ⟨w.heap.size, 0, none⟩ = some (.slice a0 l0.length cap0) := (P0_8.out).cell 0
  have cP01 : w8.cell? ⟨w.heap.size, 1, none⟩ = some (.int .i64 s0) := (P0_8.out).cell 1
  have cP02 : w8.cell? ⟨w.heap.size, 2, none⟩ = some (.int .i64 e0) := (P0_8.out).cell 2
  have cP03 : w8.cell? ⟨w.heap.size, 3, none⟩ = some (.string n0) := (P0_8.out).cell 3
  have cP10 : w8.cell? ⟨(w.heap.size + 1), 0, none⟩ = some (.slice a1 l1.length cap1) := (P1_8.out).cell 0
  have cP11 : w8.cell? ⟨(w.heap.size + 1), 1, none⟩ = some (.int .i64 s1) := (P1_8.out).cell 1
  have cP12 : w8.cell? ⟨(w.heap.size + 1), 2, none⟩ = some (.int .i64 e1) := (P1_8.out).cell 2
  have cP13 : w8.cell? ⟨(w.heap.size + 1), 3, none⟩ = some (.string n1) := (P1_8.out).cell 3
  go_wp2
  go_ret
  exact ⟨rfl, B8.out⟩
theorem own : ownKnob Try.prog.godebug = none := by kernel_rfl
theorem laidOut : laidOutB Try.prog = true := by kernel_rfl
set_option maxRecDepth 100000 in
theorem lifted (os : Os) (started : os.Started) (H : Type) (enc : TypeId × Value → H) :
    ReturnsInHanded {} Try.checked os 3 .any (Rows.fnExactSameAlarmSpec.pre6 enc Try.prog Try.f3 Rows.fnExactSameAlarmRow.domain false) (Rows.fnExactSameAlarmSpec.post enc Try.prog Try.f3 false true false false) := by
  refine returnsInHanded_of_change (C := Try.checked) own started (by kernel_rfl) Try.func3
    (ChangeSpec.witness6 (enc := enc) (C := Try.checked) false ⟨#[], #[.agg #[.slice none 0 0, .int .i64 0, .int .i64 0, .string ⟨#[]⟩], .agg #[.slice none 0 0, .int .i64 0, .int .i64 0, .string ⟨#[]⟩]], []⟩ 8 (by kernel_rfl) (by kernel_rfl) (by kernel_rfl) (by kernel_rfl)) ?_
  intro W base args ds gs before hval0 hW hcnd _
  have hval : ∀ (j : Nat) t v, Try.f3.params[j]? = some t → args[j]? = some v → Value.okWide Try.prog W .any base t v := hval0
  have hW' := hW
  obtain ⟨p, q, hA0, hV, rfl, hfz, hnd⟩ := hW
  have hA : DataW.TrodAll enc Try.prog W 0 (fun _ => true) true Try.f3.params.toList args.toList ds p := hA0
  rw [Try.params3] at hA hval
  obtain ⟨v0, vs0, d0, ds0, p0, q0, hargs, rfl, rfl, h0, r0⟩ := trodAll_cons hA
  obtain ⟨v1, vs1, d1, ds1, p1, q1, rfl, rfl, rfl, h1, r1⟩ := trodAll_cons r0
  obtain ⟨rfl, rfl, rfl⟩ := trodAll_nil r1
  obtain rfl : args = #[v0, v1] := by cases args; simp_all
  obtain ⟨rfl, rfl⟩ := trodVars_none hV
  have k0 := h0
  have lt0 : ∀ x ∈ p0, x.block < W.heap.size := by obtain ⟨m, hm⟩ := k0; exact DataW.trod_lt m _ _ _ hm
  obtain ⟨a0, cap0, l0, s0, e0, n0, rfl, w0⟩ := Go.Proofs.Ytinegehejinmiab.Alm.open_alarm (hval 0 24 v0 rfl rfl) h0
  have k1 := h1
  have lt1 : ∀ x ∈ p1, x.block < W.heap.size := by obtain ⟨m, hm⟩ := k1; exact DataW.trod_lt m _ _ _ hm
  obtain ⟨a1, cap1, l1, s1, e1, n1, rfl, w1⟩ := Go.Proofs.Ytinegehejinmiab.Alm.open_alarm (hval 1 24 v1 rfl rfl) h1
  clear hA0 hval0
  refine (walk a0 cap0 l0 s0 e0 n0 a1 cap1 l1 s1 e1 n1 W w0 w1).mono fun e W' ⟨he, bel⟩ => ?_
  subst he
  exact ⟨_, rfl, _, _, _, [], _, [], hW', trodAll_mk1 (shut_bool Try.underlying4 _), (trodAll_cons_mk (Below.trod laidOut (by kernel_rfl) (of_decide_eq_true (by kernel_rfl)) k0 bel lt0) (trodAll_cons_mk (Below.trod laidOut (by kernel_rfl) (of_decide_eq_true (by kernel_rfl)) k1 bel lt1) trodAll_mk0)), rfl, bel.frame _, fun h => by cases h⟩

theorem over : Rows.fnExactSameAlarmRow.holds Try.pinned (OpenSpec.ofChange Rows.fnExactSameAlarmSpec) :=
  OpenClaim.holds_of_wide 3 Try.f3 rfl rfl rfl rfl rfl rfl rfl ⟨rfl, rfl, rfl, rfl, rfl⟩ rfl rfl rfl rfl rfl (by kernel_rfl) Try.func3 (by kernel_rfl)
    (of_decide_eq_true (by kernel_rfl)) (by unfold Func.isWrapper; first | (rw [if_pos (by decide +kernel)]; kernel_rfl) | (rw [if_neg (by decide +kernel)]; exact ⟨rfl, rfl⟩))
    (fun os started H enc _ => lifted os started H enc)

end Go.Proofs.Ytinegehejinmiab.FnExactSameAlarm
namespace Go.Proofs.Ytinegehejinmiab
theorem fnExactSameAlarm_holds : Rows.FnExactSameAlarmSaid := FnExactSameAlarm.over
#print axioms fnExactSameAlarm_holds
end Go.Proofs.Ytinegehejinmiab
