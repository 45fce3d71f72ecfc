/-
  PROVED: whatever the code, the law laws.FnGroups returns true and leaves the code as it was: a drawn alarm joins the group of its key, and no other one; a group that has nobody any more is gone; each function of chapter 12 answers of what is drawn as the specification has it. No condition.
-/
import Derived.Test.YtgncimlojbnbfaaGreatRows
import Derived.WalkKit
import Derived.ProofKit
import Derived.OpenShut
import Derived.ShutString
import Derived.ChangeOld
import Derived.Below
import Derived.WalkLawsBesides
import Derived.WalkSpells
import Derived.Test.YtgncimlojbnbfaaGreatQGpZ
import Derived.Deep.RegionHeld3
set_option linter.unusedVariables false
namespace Go.Proofs.YtgncimlojbnbfaaGreat.FnGroups
open Go.ChangeShapes Go.WideShapes Go.ChangeAt Go.RowKit
open Go.ChangeMaps (open_string shut_string)

open Labs LabS Draw LawB Over Blk Alms AlmS DrawA Rws ChnI ChnC ChnK DrawC GrpW GrpY Gps GpD GpG GpJ GpW GpU GpZ
open Pro (RdS projB)
theorem len10 {n : Nat} (h : n ≤ 10) : n ≤ 1048576 := by omega
set_option maxRecDepth 100000 in
set_option maxHeartbeats 40000000 in
theorem core (a : Option Addr) (len cap : Nat) (w : World) (hl : len ≤ maxLen) (hb : Bytes w a len w.heap.size) :
    Calls Tryz.prog 3 #[.slice a len cap] w fun e w' => e = .returned (.bool true) ∧ Below w.heap.size w w' := by
  have HB : Hid (Bytes w a len w.heap.size) := hb
  have HL : Hid (len ≤ maxLen) := hl
  clear hb hl
  by_cases hbig : (1048576 : Int) < (len : Int)
  · have HC : Hid (Calls Tryz.prog 4 #[.slice a len cap] w fun e w' => e = .returned (.bool true) ∧ w' = w) := (big_any a len cap w HL.out).mono fun e w' h => ⟨h.1.trans (retB (decide_eq_true hbig)), h.2⟩
    go_enter Tryz.func3, Tryz.ntmps3
    go_wp2_with fail
    refine HC.out.mono ?_
    rintro e w1 ⟨rfl, rfl⟩
    go_wp2
    go_ret
    exact ⟨rfl, Below.refl _ _⟩
  have HC : Hid (Calls Tryz.prog 4 #[.slice a len cap] w fun e w' => e = .returned (.bool false) ∧ w' = w) := (big_any a len cap w HL.out).mono fun e w' h => ⟨h.1.trans (retB (decide_eq_false hbig)), h.2⟩
  go_enter Tryz.func3, Tryz.ntmps3
  go_wp2_with fail
  refine HC.out.mono ?_
  rintro e wq ⟨rfl, hw⟩
  obtain rfl := hw.symm
  clear HC hw
  have B_z0 : Hid (Below w.heap.size w w) := Below.refl _ _
  go_upto_region 3 with fail
  go_wp2_with fail
  refine (drawJoinAll_any a len cap _ HL.out HB.out).mono ?_
  rintro e w1 ⟨⟨M1, c1, U1, ga, ca, x, gb, gc, by', now, rfl, hP, hx, ⟨hby, h2⟩, hn0, hn1⟩, hb⟩
  obtain ⟨V1, hV⟩ : ∃ V, joinAllG U1 x by' 20 now = V := ⟨_, rfl⟩
  have HV : Hid (joinAllG U1 x by' 20 now = V1) := hV
  have F1 : Hid (FinesG 9 U1 ∧ U1.length ≤ 7 ∧ Fine x ∧ by'.length ≤ 2) := ⟨hP.fine, hP.len, hx.2, h2⟩
  have FV : Hid (FinesG 10 V1 ∧ V1.length ≤ 8) := by
    have h := fines_joinA (by' := by') (n := 20) (now := now) hP.fine hx.2 ⟨by omega, by omega⟩ ⟨by omega, by omega⟩
    have h3 := joinA_len U1 x by' 20 now
    rw [hV] at h h3
    exact ⟨h, by have := hP.len; omega⟩
  clear hV hn0 hn1 h2
  have ND1 : Hid (RGs w1 M1 c1 U1) := hP
  have NDX : Hid (DAl w1 ga x) := hx
  have NDB : Hid (RdS w1 (some ⟨gb, 0, none⟩) by') := hby
  have B_w1 : Hid (Below w.heap.size w w1) := hb
  clear B_z0
  have D1_w1 : Hid (RGs w1 M1 c1 U1) := ND1.out
  clear ND1
  have DX_w1 : Hid (DAl w1 ga x) := NDX.out
  clear NDX
  have DB_w1 : Hid (RdS w1 (some ⟨gb, 0, none⟩) by') := NDB.out
  clear NDB
  clear hb
  go_upto_region 4 with fail
  generalize hz : w1.alloc (.cells #[.slice (some ⟨ga, 0, none⟩) x.l.length ca, .int .i64 x.s, .int .i64 x.e, .string x.n] 27) = z1
  have hbz : Below w1.heap.size w1 z1 := by rw [← hz]; exact Go.Joins.below_alloc1 w1 _
  have bA_z1 : Hid (Blk z1 w1.heap.size #[.slice (some ⟨ga, 0, none⟩) x.l.length ca, .int .i64 x.s, .int .i64 x.e, .string x.n] 27) := by rw [← hz]; exact (Blk.new _ _ _)
  clear hz
  have B_z1 : Hid (Below w.heap.size w z1) := grow_on B_w1.out hbz
  have D1_z1 : Hid (RGs z1 M1 c1 U1) := D1_w1.out.below hbz
  have DX_z1 : Hid (DAl z1 ga x) := DX_w1.out.below hbz
  have DB_z1 : Hid (RdS z1 (some ⟨gb, 0, none⟩) by') := DB_w1.out.below hbz
  clear B_w1 D1_w1 DX_w1 DB_w1
  clear hbz
  have cbA0 : z1.cell? ⟨w1.heap.size, 0, none⟩ = some (.slice (some ⟨ga, 0, none⟩) x.l.length ca) := bA_z1.out.cell 0
  have cbA1 : z1.cell? ⟨w1.heap.size, 1, none⟩ = some (.int .i64 x.s) := bA_z1.out.cell 1
  have cbA2 : z1.cell? ⟨w1.heap.size, 2, none⟩ = some (.int .i64 x.e) := bA_z1.out.cell 2
  have cbA3 : z1.cell? ⟨w1.heap.size, 3, none⟩ = some (.string x.n) := bA_z1.out.cell 3
  go_wp2_with fail
  refine (implJoinZ D1_z1.out DX_z1.out DB_z1.out F1.out.2.2.2 HV.out).mono ?_
  rintro e w2 ⟨⟨Mx, cx, rfl, hr⟩, hb⟩
  clear cbA0 cbA1 cbA2 cbA3
  have NRX : Hid (RdGs GA w2 (some ⟨Mx, 0, none⟩) V1) := hr
  have B_w2 : Hid (Below w.heap.size w w2) := grow_on B_z1.out hb
  have D1_w2 : Hid (RGs w2 M1 c1 U1) := D1_z1.out.below hb
  have DX_w2 : Hid (DAl w2 ga x) := DX_z1.out.below hb
  have DB_w2 : Hid (RdS w2 (some ⟨gb, 0, none⟩) by') := DB_z1.out.below hb
  have bA_w2 : Hid (Blk w2 w1.heap.size #[.slice (some ⟨ga, 0, none⟩) x.l.length ca, .int .i64 x.s, .int .i64 x.e, .string x.n] 27) := bA_z1.out.grow hb
  clear B_z1 D1_z1 DX_z1 DB_z1 bA_z1
  have RX_w2 : Hid (RdGs GA w2 (some ⟨Mx, 0, none⟩) V1) := NRX.out
  clear NRX
  clear hb
  go_upto_region 5 with fail
  have cbA0 : w2.cell? ⟨w1.heap.size, 0, none⟩ = some (.slice (some ⟨ga, 0, none⟩) x.l.length ca) := bA_w2.out.cell 0
  have cbA1 : w2.cell? ⟨w1.heap.size, 1, none⟩ = some (.int .i64 x.s) := bA_w2.out.cell 1
  have cbA2 : w2.cell? ⟨w1.heap.size, 2, none⟩ = some (.int .i64 x.e) := bA_w2.out.cell 2
  have cbA3 : w2.cell? ⟨w1.heap.size, 3, none⟩ = some (.string x.n) := bA_w2.out.cell 3
  go_wp2_with fail
  refine (specJoinZ D1_w2.out DX_w2.out DB_w2.out F1.out.2.2.2 HV.out).mono ?_
  rintro e w3 ⟨⟨My, cy, rfl, hr⟩, hb⟩
  clear cbA0 cbA1 cbA2 cbA3
  have NRY : Hid (RdGs GA w3 (some ⟨My, 0, none⟩) V1) := hr
  have B_w3 : Hid (Below w.heap.size w w3) := grow_on B_w2.out hb
  have D1_w3 : Hid (RGs w3 M1 c1 U1) := D1_w2.out.below hb
  have DX_w3 : Hid (DAl w3 ga x) := DX_w2.out.below hb
  have DB_w3 : Hid (RdS w3 (some ⟨gb, 0, none⟩) by') := DB_w2.out.below hb
  have bA_w3 : Hid (Blk w3 w1.heap.size #[.slice (some ⟨ga, 0, none⟩) x.l.length ca, .int .i64 x.s, .int .i64 x.e, .string x.n] 27) := bA_w2.out.grow hb
  have RX_w3 : Hid (RdGs GA w3 (some ⟨Mx, 0, none⟩) V1) := RX_w2.out.below stays_ga hb
  clear B_w2 D1_w2 DX_w2 DB_w2 bA_w2 RX_w2
  have RY_w3 : Hid (RdGs GA w3 (some ⟨My, 0, none⟩) V1) := NRY.out
  clear NRY
  clear hb
  go_upto_region 6 with fail
  go_wp2_with fail
  refine (drawFlushAt_any a len cap _ HL.out (bytes_up HB.out B_w3.out)).mono ?_
  rintro e w4 ⟨⟨M2, c2, U2, k, t, rfl, hP, hi, ht0, ht1⟩, hb⟩
  obtain ⟨V2, nB, keyB, tB, PB, hit, hR⟩ := flr_ex U2 k t
  have HFL : Hid (FlR U2 k t V2 nB keyB tB PB hit) := hR
  have F2 : Hid (FinesG 9 U2 ∧ U2.length ≤ 7) := ⟨hP.fine, hP.len⟩
  have FF : Hid (FinesG 9 V2 ∧ V2.length ≤ 7 ∧ keyB.length ≤ 8 ∧ Fines PB ∧ PB.length ≤ 9 ∧ (hit = false → V2 = U2) ∧ (hit = true → nB = k ∧ tB = t ∧ (V2.length = U2.length ∨ V2.length + 1 = U2.length))) := flr_facts hR hP.fine hP.len ⟨by omega, by omega⟩
  clear hR hi ht0 ht1
  have ND2 : Hid (RGs w4 M2 c2 U2) := hP
  have B_w4 : Hid (Below w.heap.size w w4) := grow_on B_w3.out hb
  have D1_w4 : Hid (RGs w4 M1 c1 U1) := D1_w3.out.below hb
  have DX_w4 : Hid (DAl w4 ga x) := DX_w3.out.below hb
  have DB_w4 : Hid (RdS w4 (some ⟨gb, 0, none⟩) by') := DB_w3.out.below hb
  have bA_w4 : Hid (Blk w4 w1.heap.size #[.slice (some ⟨ga, 0, none⟩) x.l.length ca, .int .i64 x.s, .int .i64 x.e, .string x.n] 27) := bA_w3.out.grow hb
  have RX_w4 : Hid (RdGs GA w4 (some ⟨Mx, 0, none⟩) V1) := RX_w3.out.below stays_ga hb
  have RY_w4 : Hid (RdGs GA w4 (some ⟨My, 0, none⟩) V1) := RY_w3.out.below stays_ga hb
  clear B_w3 D1_w3 DX_w3 DB_w3 bA_w3 RX_w3 RY_w3
  have D2_w4 : Hid (RGs w4 M2 c2 U2) := ND2.out
  clear ND2
  clear hb
  go_upto_region 7 with fail
  go_wp2_with fail
  refine (implFlushZ D2_w4.out HFL.out).mono ?_
  rintro e w5 ⟨⟨Mz, cz, kz, kkz, az, ccz, rfl, h1, h2, h3⟩, hb⟩
  have NRz : Hid (RdGs GA w5 (some ⟨Mz, 0, none⟩) V2) := h1
  have NKz : Hid (Reads w5 kz keyB) := h2
  have NPz : Hid (RdA w5 az PB) := h3
  have B_w5 : Hid (Below w.heap.size w w5) := grow_on B_w4.out hb
  have D1_w5 : Hid (RGs w5 M1 c1 U1) := D1_w4.out.below hb
  have DX_w5 : Hid (DAl w5 ga x) := DX_w4.out.below hb
  have DB_w5 : Hid (RdS w5 (some ⟨gb, 0, none⟩) by') := DB_w4.out.below hb
  have bA_w5 : Hid (Blk w5 w1.heap.size #[.slice (some ⟨ga, 0, none⟩) x.l.length ca, .int .i64 x.s, .int .i64 x.e, .string x.n] 27) := bA_w4.out.grow hb
  have RX_w5 : Hid (RdGs GA w5 (some ⟨Mx, 0, none⟩) V1) := RX_w4.out.below stays_ga hb
  have RY_w5 : Hid (RdGs GA w5 (some ⟨My, 0, none⟩) V1) := RY_w4.out.below stays_ga hb
  have D2_w5 : Hid (RGs w5 M2 c2 U2) := D2_w4.out.below hb
  clear B_w4 D1_w4 DX_w4 DB_w4 bA_w4 RX_w4 RY_w4 D2_w4
  have Rz_w5 : Hid (RdGs GA w5 (some ⟨Mz, 0, none⟩) V2) := NRz.out
  clear NRz
  have Kz_w5 : Hid (Reads w5 kz keyB) := NKz.out
  clear NKz
  have Pz_w5 : Hid (RdA w5 az PB) := NPz.out
  clear NPz
  clear hb
  go_upto_region 8 with fail
  generalize hz : w5.alloc (.cells #[.int .i64 nB, .slice kz keyB.length kkz, .int .i64 tB, .slice az PB.length ccz] 37) = z5
  have hbz : Below w5.heap.size w5 z5 := by rw [← hz]; exact Go.Joins.below_alloc1 w5 _
  have bB_z5 : Hid (Blk z5 w5.heap.size #[.int .i64 nB, .slice kz keyB.length kkz, .int .i64 tB, .slice az PB.length ccz] 37) := by rw [← hz]; exact (Blk.new _ _ _)
  clear hz
  have B_z5 : Hid (Below w.heap.size w z5) := grow_on B_w5.out hbz
  have D1_z5 : Hid (RGs z5 M1 c1 U1) := D1_w5.out.below hbz
  have DX_z5 : Hid (DAl z5 ga x) := DX_w5.out.below hbz
  have DB_z5 : Hid (RdS z5 (some ⟨gb, 0, none⟩) by') := DB_w5.out.below hbz
  have bA_z5 : Hid (Blk z5 w1.heap.size #[.slice (some ⟨ga, 0, none⟩) x.l.length ca, .int .i64 x.s, .int .i64 x.e, .string x.n] 27) := bA_w5.out.grow hbz
  have RX_z5 : Hid (RdGs GA z5 (some ⟨Mx, 0, none⟩) V1) := RX_w5.out.below stays_ga hbz
  have RY_z5 : Hid (RdGs GA z5 (some ⟨My, 0, none⟩) V1) := RY_w5.out.below stays_ga hbz
  have D2_z5 : Hid (RGs z5 M2 c2 U2) := D2_w5.out.below hbz
  have Rz_z5 : Hid (RdGs GA z5 (some ⟨Mz, 0, none⟩) V2) := Rz_w5.out.below stays_ga hbz
  have Kz_z5 : Hid (Reads z5 kz keyB) := Kz_w5.out.below hbz
  have Pz_z5 : Hid (RdA z5 az PB) := Pz_w5.out.below hbz
  clear B_w5 D1_w5 DX_w5 DB_w5 bA_w5 RX_w5 RY_w5 D2_w5 Rz_w5 Kz_w5 Pz_w5
  clear hbz
  go_wp2_with fail
  refine (specFlushZ D2_z5.out HFL.out).mono ?_
  rintro e w6 ⟨⟨Mu, cu, ku, kku, au, ccu, rfl, h1, h2, h3⟩, hb⟩
  have NRu : Hid (RdGs GA w6 (some ⟨Mu, 0, none⟩) V2) := h1
  have NKu : Hid (Reads w6 ku keyB) := h2
  have NPu : Hid (RdA w6 au PB) := h3
  have B_w6 : Hid (Below w.heap.size w w6) := grow_on B_z5.out hb
  have D1_w6 : Hid (RGs w6 M1 c1 U1) := D1_z5.out.below hb
  have DX_w6 : Hid (DAl w6 ga x) := DX_z5.out.below hb
  have DB_w6 : Hid (RdS w6 (some ⟨gb, 0, none⟩) by') := DB_z5.out.below hb
  have bA_w6 : Hid (Blk w6 w1.heap.size #[.slice (some ⟨ga, 0, none⟩) x.l.length ca, .int .i64 x.s, .int .i64 x.e, .string x.n] 27) := bA_z5.out.grow hb
  have RX_w6 : Hid (RdGs GA w6 (some ⟨Mx, 0, none⟩) V1) := RX_z5.out.below stays_ga hb
  have RY_w6 : Hid (RdGs GA w6 (some ⟨My, 0, none⟩) V1) := RY_z5.out.below stays_ga hb
  have D2_w6 : Hid (RGs w6 M2 c2 U2) := D2_z5.out.below hb
  have Rz_w6 : Hid (RdGs GA w6 (some ⟨Mz, 0, none⟩) V2) := Rz_z5.out.below stays_ga hb
  have Kz_w6 : Hid (Reads w6 kz keyB) := Kz_z5.out.below hb
  have Pz_w6 : Hid (RdA w6 az PB) := Pz_z5.out.below hb
  have bB_w6 : Hid (Blk w6 w5.heap.size #[.int .i64 nB, .slice kz keyB.length kkz, .int .i64 tB, .slice az PB.length ccz] 37) := bB_z5.out.grow hb
  clear B_z5 D1_z5 DX_z5 DB_z5 bA_z5 RX_z5 RY_z5 D2_z5 Rz_z5 Kz_z5 Pz_z5 bB_z5
  have Ru_w6 : Hid (RdGs GA w6 (some ⟨Mu, 0, none⟩) V2) := NRu.out
  clear NRu
  have Ku_w6 : Hid (Reads w6 ku keyB) := NKu.out
  clear NKu
  have Pu_w6 : Hid (RdA w6 au PB) := NPu.out
  clear NPu
  clear hb
  go_upto_region 9 with fail
  generalize hz : w6.alloc (.cells #[.int .i64 nB, .slice ku keyB.length kku, .int .i64 tB, .slice au PB.length ccu] 37) = z6
  have hbz : Below w6.heap.size w6 z6 := by rw [← hz]; exact Go.Joins.below_alloc1 w6 _
  have bC_z6 : Hid (Blk z6 w6.heap.size #[.int .i64 nB, .slice ku keyB.length kku, .int .i64 tB, .slice au PB.length ccu] 37) := by rw [← hz]; exact (Blk.new _ _ _)
  clear hz
  have B_z6 : Hid (Below w.heap.size w z6) := grow_on B_w6.out hbz
  have D1_z6 : Hid (RGs z6 M1 c1 U1) := D1_w6.out.below hbz
  have DX_z6 : Hid (DAl z6 ga x) := DX_w6.out.below hbz
  have DB_z6 : Hid (RdS z6 (some ⟨gb, 0, none⟩) by') := DB_w6.out.below hbz
  have bA_z6 : Hid (Blk z6 w1.heap.size #[.slice (some ⟨ga, 0, none⟩) x.l.length ca, .int .i64 x.s, .int .i64 x.e, .string x.n] 27) := bA_w6.out.grow hbz
  have RX_z6 : Hid (RdGs GA z6 (some ⟨Mx, 0, none⟩) V1) := RX_w6.out.below stays_ga hbz
  have RY_z6 : Hid (RdGs GA z6 (some ⟨My, 0, none⟩) V1) := RY_w6.out.below stays_ga hbz
  have D2_z6 : Hid (RGs z6 M2 c2 U2) := D2_w6.out.below hbz
  have Rz_z6 : Hid (RdGs GA z6 (some ⟨Mz, 0, none⟩) V2) := Rz_w6.out.below stays_ga hbz
  have Kz_z6 : Hid (Reads z6 kz keyB) := Kz_w6.out.below hbz
  have Pz_z6 : Hid (RdA z6 az PB) := Pz_w6.out.below hbz
  have bB_z6 : Hid (Blk z6 w5.heap.size #[.int .i64 nB, .slice kz keyB.length kkz, .int .i64 tB, .slice az PB.length ccz] 37) := bB_w6.out.grow hbz
  have Ru_z6 : Hid (RdGs GA z6 (some ⟨Mu, 0, none⟩) V2) := Ru_w6.out.below stays_ga hbz
  have Ku_z6 : Hid (Reads z6 ku keyB) := Ku_w6.out.below hbz
  have Pu_z6 : Hid (RdA z6 au PB) := Pu_w6.out.below hbz
  clear B_w6 D1_w6 DX_w6 DB_w6 bA_w6 RX_w6 RY_w6 D2_w6 Rz_w6 Kz_w6 Pz_w6 bB_w6 Ru_w6 Ku_w6 Pu_w6
  clear hbz
  go_wp2_with fail
  refine (drawGroupsOk_any a len cap _ HL.out (bytes_up HB.out B_z6.out)).mono ?_
  rintro e w7 ⟨⟨M5, c5, U5, gb5, gc5, by5, rfl, hP, hby, h2⟩, hb⟩
  have HB5 : Hid (by5.length ≤ maxLen) := by unfold Hid maxLen; omega
  clear h2
  have ND5 : Hid (RGs w7 M5 c5 U5) := hP
  have NDB5 : Hid (RdS w7 (some ⟨gb5, 0, none⟩) by5) := hby
  have B_w7 : Hid (Below w.heap.size w w7) := grow_on B_z6.out hb
  have D1_w7 : Hid (RGs w7 M1 c1 U1) := D1_z6.out.below hb
  have DX_w7 : Hid (DAl w7 ga x) := DX_z6.out.below hb
  have DB_w7 : Hid (RdS w7 (some ⟨gb, 0, none⟩) by') := DB_z6.out.below hb
  have bA_w7 : Hid (Blk w7 w1.heap.size #[.slice (some ⟨ga, 0, none⟩) x.l.length ca, .int .i64 x.s, .int .i64 x.e, .string x.n] 27) := bA_z6.out.grow hb
  have RX_w7 : Hid (RdGs GA w7 (some ⟨Mx, 0, none⟩) V1) := RX_z6.out.below stays_ga hb
  have RY_w7 : Hid (RdGs GA w7 (some ⟨My, 0, none⟩) V1) := RY_z6.out.below stays_ga hb
  have D2_w7 : Hid (RGs w7 M2 c2 U2) := D2_z6.out.below hb
  have Rz_w7 : Hid (RdGs GA w7 (some ⟨Mz, 0, none⟩) V2) := Rz_z6.out.below stays_ga hb
  have Kz_w7 : Hid (Reads w7 kz keyB) := Kz_z6.out.below hb
  have Pz_w7 : Hid (RdA w7 az PB) := Pz_z6.out.below hb
  have bB_w7 : Hid (Blk w7 w5.heap.size #[.int .i64 nB, .slice kz keyB.length kkz, .int .i64 tB, .slice az PB.length ccz] 37) := bB_z6.out.grow hb
  have Ru_w7 : Hid (RdGs GA w7 (some ⟨Mu, 0, none⟩) V2) := Ru_z6.out.below stays_ga hb
  have Ku_w7 : Hid (Reads w7 ku keyB) := Ku_z6.out.below hb
  have Pu_w7 : Hid (RdA w7 au PB) := Pu_z6.out.below hb
  have bC_w7 : Hid (Blk w7 w6.heap.size #[.int .i64 nB, .slice ku keyB.length kku, .int .i64 tB, .slice au PB.length ccu] 37) := bC_z6.out.grow hb
  clear B_z6 D1_z6 DX_z6 DB_z6 bA_z6 RX_z6 RY_z6 D2_z6 Rz_z6 Kz_z6 Pz_z6 bB_z6 Ru_z6 Ku_z6 Pu_z6 bC_z6
  have D5_w7 : Hid (RGs w7 M5 c5 U5) := ND5.out
  clear ND5
  have DB5_w7 : Hid (RdS w7 (some ⟨gb5, 0, none⟩) by5) := NDB5.out
  clear NDB5
  clear hb
  go_upto_region 10 with fail
  go_wp2_with fail
  refine (drawGroupOf_any a len cap _ HL.out (bytes_up HB.out B_w7.out)).mono ?_
  rintro e w8 ⟨⟨M6, c6, U6, g6, cg6, q6, rfl, hP, hd⟩, hb⟩
  have ND6 : Hid (RGs w8 M6 c6 U6) := hP
  have NQ6 : Hid (DLs w8 g6 q6) := hd
  have B_w8 : Hid (Below w.heap.size w w8) := grow_on B_w7.out hb
  have D1_w8 : Hid (RGs w8 M1 c1 U1) := D1_w7.out.below hb
  have DX_w8 : Hid (DAl w8 ga x) := DX_w7.out.below hb
  have DB_w8 : Hid (RdS w8 (some ⟨gb, 0, none⟩) by') := DB_w7.out.below hb
  have bA_w8 : Hid (Blk w8 w1.heap.size #[.slice (some ⟨ga, 0, none⟩) x.l.length ca, .int .i64 x.s, .int .i64 x.e, .string x.n] 27) := bA_w7.out.grow hb
  have RX_w8 : Hid (RdGs GA w8 (some ⟨Mx, 0, none⟩) V1) := RX_w7.out.below stays_ga hb
  have RY_w8 : Hid (RdGs GA w8 (some ⟨My, 0, none⟩) V1) := RY_w7.out.below stays_ga hb
  have D2_w8 : Hid (RGs w8 M2 c2 U2) := D2_w7.out.below hb
  have Rz_w8 : Hid (RdGs GA w8 (some ⟨Mz, 0, none⟩) V2) := Rz_w7.out.below stays_ga hb
  have Kz_w8 : Hid (Reads w8 kz keyB) := Kz_w7.out.below hb
  have Pz_w8 : Hid (RdA w8 az PB) := Pz_w7.out.below hb
  have bB_w8 : Hid (Blk w8 w5.heap.size #[.int .i64 nB, .slice kz keyB.length kkz, .int .i64 tB, .slice az PB.length ccz] 37) := bB_w7.out.grow hb
  have Ru_w8 : Hid (RdGs GA w8 (some ⟨Mu, 0, none⟩) V2) := Ru_w7.out.below stays_ga hb
  have Ku_w8 : Hid (Reads w8 ku keyB) := Ku_w7.out.below hb
  have Pu_w8 : Hid (RdA w8 au PB) := Pu_w7.out.below hb
  have bC_w8 : Hid (Blk w8 w6.heap.size #[.int .i64 nB, .slice ku keyB.length kku, .int .i64 tB, .slice au PB.length ccu] 37) := bC_w7.out.grow hb
  have D5_w8 : Hid (RGs w8 M5 c5 U5) := D5_w7.out.below hb
  have DB5_w8 : Hid (RdS w8 (some ⟨gb5, 0, none⟩) by5) := DB5_w7.out.below hb
  clear B_w7 D1_w7 DX_w7 DB_w7 bA_w7 RX_w7 RY_w7 D2_w7 Rz_w7 Kz_w7 Pz_w7 bB_w7 Ru_w7 Ku_w7 Pu_w7 bC_w7 D5_w7 DB5_w7
  have D6_w8 : Hid (RGs w8 M6 c6 U6) := ND6.out
  clear ND6
  have Q6_w8 : Hid (DLs w8 g6 q6) := NQ6.out
  clear NQ6
  clear hb
  go_upto_region 11 with fail
  go_wp2_with fail
  refine (drawGroupAt_any a len cap _ HL.out (bytes_up HB.out B_w8.out)).mono ?_
  rintro e w9 ⟨⟨M7, c7, U7, i7, rfl, hP, hi⟩, hb⟩
  clear hi
  have ND7 : Hid (RGs w9 M7 c7 U7) := hP
  have B_w9 : Hid (Below w.heap.size w w9) := grow_on B_w8.out hb
  have D1_w9 : Hid (RGs w9 M1 c1 U1) := D1_w8.out.below hb
  have DX_w9 : Hid (DAl w9 ga x) := DX_w8.out.below hb
  have DB_w9 : Hid (RdS w9 (some ⟨gb, 0, none⟩) by') := DB_w8.out.below hb
  have bA_w9 : Hid (Blk w9 w1.heap.size #[.slice (some ⟨ga, 0, none⟩) x.l.length ca, .int .i64 x.s, .int .i64 x.e, .string x.n] 27) := bA_w8.out.grow hb
  have RX_w9 : Hid (RdGs GA w9 (some ⟨Mx, 0, none⟩) V1) := RX_w8.out.below stays_ga hb
  have RY_w9 : Hid (RdGs GA w9 (some ⟨My, 0, none⟩) V1) := RY_w8.out.below stays_ga hb
  have D2_w9 : Hid (RGs w9 M2 c2 U2) := D2_w8.out.below hb
  have Rz_w9 : Hid (RdGs GA w9 (some ⟨Mz, 0, none⟩) V2) := Rz_w8.out.below stays_ga hb
  have Kz_w9 : Hid (Reads w9 kz keyB) := Kz_w8.out.below hb
  have Pz_w9 : Hid (RdA w9 az PB) := Pz_w8.out.below hb
  have bB_w9 : Hid (Blk w9 w5.heap.size #[.int .i64 nB, .slice kz keyB.length kkz, .int .i64 tB, .slice az PB.length ccz] 37) := bB_w8.out.grow hb
  have Ru_w9 : Hid (RdGs GA w9 (some ⟨Mu, 0, none⟩) V2) := Ru_w8.out.below stays_ga hb
  have Ku_w9 : Hid (Reads w9 ku keyB) := Ku_w8.out.below hb
  have Pu_w9 : Hid (RdA w9 au PB) := Pu_w8.out.below hb
  have bC_w9 : Hid (Blk w9 w6.heap.size #[.int .i64 nB, .slice ku keyB.length kku, .int .i64 tB, .slice au PB.length ccu] 37) := bC_w8.out.grow hb
  have D5_w9 : Hid (RGs w9 M5 c5 U5) := D5_w8.out.below hb
  have DB5_w9 : Hid (RdS w9 (some ⟨gb5, 0, none⟩) by5) := DB5_w8.out.below hb
  have D6_w9 : Hid (RGs w9 M6 c6 U6) := D6_w8.out.below hb
  have Q6_w9 : Hid (DLs w9 g6 q6) := Q6_w8.out.below hb
  clear B_w8 D1_w8 DX_w8 DB_w8 bA_w8 RX_w8 RY_w8 D2_w8 Rz_w8 Kz_w8 Pz_w8 bB_w8 Ru_w8 Ku_w8 Pu_w8 bC_w8 D5_w8 DB5_w8 D6_w8 Q6_w8
  have D7_w9 : Hid (RGs w9 M7 c7 U7) := ND7.out
  clear ND7
  clear hb
  go_upto_region 12 with fail
  go_wp2_with fail
  refine (drawMemberOf_any a len cap _ HL.out (bytes_up HB.out B_w9.out)).mono ?_
  rintro e w10 ⟨⟨M8, c8, U8, g8, cg8, q8, rfl, hP, hd⟩, hb⟩
  have ND8 : Hid (RGs w10 M8 c8 U8) := hP
  have NQ8 : Hid (DLs w10 g8 q8) := hd
  have B_w10 : Hid (Below w.heap.size w w10) := grow_on B_w9.out hb
  have D1_w10 : Hid (RGs w10 M1 c1 U1) := D1_w9.out.below hb
  have DX_w10 : Hid (DAl w10 ga x) := DX_w9.out.below hb
  have DB_w10 : Hid (RdS w10 (some ⟨gb, 0, none⟩) by') := DB_w9.out.below hb
  have bA_w10 : Hid (Blk w10 w1.heap.size #[.slice (some ⟨ga, 0, none⟩) x.l.length ca, .int .i64 x.s, .int .i64 x.e, .string x.n] 27) := bA_w9.out.grow hb
  have RX_w10 : Hid (RdGs GA w10 (some ⟨Mx, 0, none⟩) V1) := RX_w9.out.below stays_ga hb
  have RY_w10 : Hid (RdGs GA w10 (some ⟨My, 0, none⟩) V1) := RY_w9.out.below stays_ga hb
  have D2_w10 : Hid (RGs w10 M2 c2 U2) := D2_w9.out.below hb
  have Rz_w10 : Hid (RdGs GA w10 (some ⟨Mz, 0, none⟩) V2) := Rz_w9.out.below stays_ga hb
  have Kz_w10 : Hid (Reads w10 kz keyB) := Kz_w9.out.below hb
  have Pz_w10 : Hid (RdA w10 az PB) := Pz_w9.out.below hb
  have bB_w10 : Hid (Blk w10 w5.heap.size #[.int .i64 nB, .slice kz keyB.length kkz, .int .i64 tB, .slice az PB.length ccz] 37) := bB_w9.out.grow hb
  have Ru_w10 : Hid (RdGs GA w10 (some ⟨Mu, 0, none⟩) V2) := Ru_w9.out.below stays_ga hb
  have Ku_w10 : Hid (Reads w10 ku keyB) := Ku_w9.out.below hb
  have Pu_w10 : Hid (RdA w10 au PB) := Pu_w9.out.below hb
  have bC_w10 : Hid (Blk w10 w6.heap.size #[.int .i64 nB, .slice ku keyB.length kku, .int .i64 tB, .slice au PB.length ccu] 37) := bC_w9.out.grow hb
  have D5_w10 : Hid (RGs w10 M5 c5 U5) := D5_w9.out.below hb
  have DB5_w10 : Hid (RdS w10 (some ⟨gb5, 0, none⟩) by5) := DB5_w9.out.below hb
  have D6_w10 : Hid (RGs w10 M6 c6 U6) := D6_w9.out.below hb
  have Q6_w10 : Hid (DLs w10 g6 q6) := Q6_w9.out.below hb
  have D7_w10 : Hid (RGs w10 M7 c7 U7) := D7_w9.out.below hb
  clear B_w9 D1_w9 DX_w9 DB_w9 bA_w9 RX_w9 RY_w9 D2_w9 Rz_w9 Kz_w9 Pz_w9 bB_w9 Ru_w9 Ku_w9 Pu_w9 bC_w9 D5_w9 DB5_w9 D6_w9 Q6_w9 D7_w9
  have D8_w10 : Hid (RGs w10 M8 c8 U8) := ND8.out
  clear ND8
  have Q8_w10 : Hid (DLs w10 g8 q8) := NQ8.out
  clear NQ8
  clear hb
  go_upto_region 13 with fail
  have C2 : Hid (∀ (u : World), Below w10.heap.size w10 u → Calls Tryz.prog 15 #[.slice (some ⟨Mx, 0, none⟩) V1.length cx, .slice (some ⟨My, 0, none⟩) V1.length cy] u fun e w' => e = .returned (.bool true) ∧ Below u.heap.size u w') := fun u hu => sameGs_any _ _ cx cy 10 V1 u (RX_w10.out.below stays_ga hu) (RY_w10.out.below stays_ga hu) (by have := FV.out.2; omega) FV.out.1 (by omega)
  have C12 : Hid (∀ (u : World), Below w10.heap.size w10 u → Calls Tryz.prog 15 #[.slice (some ⟨Mz, 0, none⟩) V2.length cz, .slice (some ⟨Mu, 0, none⟩) V2.length cu] u fun e w' => e = .returned (.bool true) ∧ Below u.heap.size u w') := fun u hu => sameGs_any _ _ cz cu 9 V2 u (Rz_w10.out.below stays_ga hu) (Ru_w10.out.below stays_ga hu) (by have := FF.out.2.1; omega) FF.out.1 (by omega)
  have C18 : Hid (∀ (u : World), Below w10.heap.size w10 u → Calls Tryz.prog 16 #[.agg #[.int .i64 nB, .slice kz keyB.length kkz, .int .i64 tB, .slice az PB.length ccz], .agg #[.int .i64 nB, .slice ku keyB.length kku, .int .i64 tB, .slice au PB.length ccu]] u fun e w' => e = .returned (.bool true) ∧ Below u.heap.size u w') := fun u hu => sameBZ (Kz_w10.out.below hu) (Ku_w10.out.below hu) (by have := FF.out.2.2.1; unfold maxLen; omega) (Pz_w10.out.below hu) (Pu_w10.out.below hu) (by have := FF.out.2.2.2.2.1; omega) (finesP FF.out.2.2.2.1)
  have C29 : Hid (∀ (u : World), Below w10.heap.size w10 u → Calls Tryz.prog 17 #[.slice (some ⟨M5, 0, none⟩) U5.length c5, .slice (some ⟨gb5, 0, none⟩) by5.length gc5] u fun e w' => e = .returned (.bool (groupsB U5 by5)) ∧ Below u.heap.size u w') := fun u hu => GpIa.implGroups_any _ _ c5 gc5 U5 by5 u (D5_w10.out.rn.rd.below stays_ga hu) (by have := D5_w10.out.len; omega) (FinesG.fits D5_w10.out.fine (by omega)) (FinesG.smP D5_w10.out.fine (by omega)) (DB5_w10.out.below hu) HB5.out
  have C32 : Hid (∀ (u : World), Below w10.heap.size w10 u → Calls Tryz.prog 18 #[.slice (some ⟨M5, 0, none⟩) U5.length c5, .slice (some ⟨gb5, 0, none⟩) by5.length gc5] u fun e w' => e = .returned (.bool (groupsB U5 by5)) ∧ Below u.heap.size u w') := fun u hu => specGroups_any _ _ c5 gc5 U5 by5 u (D5_w10.out.rn.rd.below stays_ga hu) (by have := D5_w10.out.len; omega) (FinesG.fits D5_w10.out.fine (by omega)) (FinesG.smP D5_w10.out.fine (by omega)) (DB5_w10.out.below hu) HB5.out
  have C38 : Hid (∀ (u : World), Below w10.heap.size w10 u → Calls Tryz.prog 19 #[.slice (some ⟨M6, 0, none⟩) U6.length c6, .slice (some ⟨g6, 0, none⟩) q6.length cg6] u fun e w' => e = .returned (.int .i64 (ofI (keyIs q6) U6)) ∧ Below u.heap.size u w') := fun u hu => GpIo.implOf_any _ _ c6 cg6 U6 q6 u (D6_w10.out.rn.rd.below stays_ga hu) (Q6_w10.out.below hu).1 (by have := D6_w10.out.len; omega) (by have := Q6_w10.out.2.2; unfold maxLen; omega) (FinesG.keys D6_w10.out.fine)
  have C41 : Hid (∀ (u : World), Below w10.heap.size w10 u → Calls Tryz.prog 20 #[.slice (some ⟨M6, 0, none⟩) U6.length c6, .slice (some ⟨g6, 0, none⟩) q6.length cg6] u fun e w' => e = .returned (.int .i64 (ofI (keyIs q6) U6)) ∧ Below u.heap.size u w') := fun u hu => GpOf.specOf_any _ _ c6 cg6 U6 q6 u (D6_w10.out.rn.rd.below stays_ga hu) (Q6_w10.out.below hu).1 (by have := D6_w10.out.len; omega) (by have := Q6_w10.out.2.2; unfold maxLen; omega) (FinesG.keys D6_w10.out.fine)
  have C47 : Hid (∀ (u : World), Below w10.heap.size w10 u → Calls Tryz.prog 21 #[.slice (some ⟨M7, 0, none⟩) U7.length c7, .int .i64 i7] u fun e w' => e = .returned (.int .i64 (ofI (numIs i7) U7)) ∧ Below u.heap.size u w') := fun u hu => GpIt.implAt_any _ c7 U7 i7 u (D7_w10.out.rn.rd.below stays_ga hu) (by have := D7_w10.out.len; omega)
  have C50 : Hid (∀ (u : World), Below w10.heap.size w10 u → Calls Tryz.prog 22 #[.slice (some ⟨M7, 0, none⟩) U7.length c7, .int .i64 i7] u fun e w' => e = .returned (.int .i64 (ofI (numIs i7) U7)) ∧ Below u.heap.size u w') := fun u hu => GpAt.specAt_any _ c7 U7 i7 u (D7_w10.out.rn.rd.below stays_ga hu) (by have := D7_w10.out.len; omega)
  have C56 : Hid (∀ (u : World), Below w10.heap.size w10 u → Calls Tryz.prog 23 #[.slice (some ⟨M8, 0, none⟩) U8.length c8, .slice (some ⟨g8, 0, none⟩) q8.length cg8] u fun e w' => e = .returned (.int .i64 (memG U8 q8)) ∧ Below u.heap.size u w') := fun u hu => GpIm.implMem_any _ _ c8 cg8 U8 q8 u (D8_w10.out.rn.rd.below stays_ga hu) (Q8_w10.out.below hu).1 (by have := D8_w10.out.len; omega) (by have := Q8_w10.out.2.2; unfold maxLen; omega) (FinesG.smP D8_w10.out.fine (by omega))
  have C59 : Hid (∀ (u : World), Below w10.heap.size w10 u → Calls Tryz.prog 24 #[.slice (some ⟨M8, 0, none⟩) U8.length c8, .slice (some ⟨g8, 0, none⟩) q8.length cg8] u fun e w' => e = .returned (.int .i64 (memG U8 q8)) ∧ Below u.heap.size u w') := fun u hu => GpMe.specMem_any _ _ c8 cg8 U8 q8 u (D8_w10.out.rn.rd.below stays_ga hu) (Q8_w10.out.below hu).1 (by have := D8_w10.out.len; omega) (by have := Q8_w10.out.2.2; unfold maxLen; omega) (FinesG.smP D8_w10.out.fine (by omega))
  have eq0 : (newJ U1 x by' != newJ U1 x by') = false := by simp
  have eq1 : (hit != hit) = false := by simp
  have eq2 : (groupsB U5 by5 != groupsB U5 by5) = false := by simp
  have eq3 : (ofI (keyIs q6) U6 != ofI (keyIs q6) U6) = false := by simp
  have eq4 : (ofI (numIs i7) U7 != ofI (numIs i7) U7) = false := by simp
  have eq5 : (memG U8 q8 != memG U8 q8) = false := by simp
  have hsr : Hid (Below w10.heap.size w10 w10) := Below.refl _ _
  have cbB0 : w10.cell? ⟨w5.heap.size, 0, none⟩ = some (.int .i64 nB) := (bB_w10.out.grow hsr.out).cell 0
  have cbB1 : w10.cell? ⟨w5.heap.size, 1, none⟩ = some (.slice kz keyB.length kkz) := (bB_w10.out.grow hsr.out).cell 1
  have cbB2 : w10.cell? ⟨w5.heap.size, 2, none⟩ = some (.int .i64 tB) := (bB_w10.out.grow hsr.out).cell 2
  have cbB3 : w10.cell? ⟨w5.heap.size, 3, none⟩ = some (.slice az PB.length ccz) := (bB_w10.out.grow hsr.out).cell 3
  have cbC0 : w10.cell? ⟨w6.heap.size, 0, none⟩ = some (.int .i64 nB) := (bC_w10.out.grow hsr.out).cell 0
  have cbC1 : w10.cell? ⟨w6.heap.size, 1, none⟩ = some (.slice ku keyB.length kku) := (bC_w10.out.grow hsr.out).cell 1
  have cbC2 : w10.cell? ⟨w6.heap.size, 2, none⟩ = some (.int .i64 tB) := (bC_w10.out.grow hsr.out).cell 2
  have cbC3 : w10.cell? ⟨w6.heap.size, 3, none⟩ = some (.slice au PB.length ccu) := (bC_w10.out.grow hsr.out).cell 3
  go_wp2_with fail
  refine (C2.out _ hsr.out).mono ?_
  rintro e wsr0 ⟨rfl, hy⟩
  have hsr0 : Hid (Below w10.heap.size w10 wsr0) := grow_on hsr.out hy
  clear hy cbB0 cbB1 cbB2 cbB3 cbC0 cbC1 cbC2 cbC3
  clear hsr
  have cbB0 : wsr0.cell? ⟨w5.heap.size, 0, none⟩ = some (.int .i64 nB) := (bB_w10.out.grow hsr0.out).cell 0
  have cbB1 : wsr0.cell? ⟨w5.heap.size, 1, none⟩ = some (.slice kz keyB.length kkz) := (bB_w10.out.grow hsr0.out).cell 1
  have cbB2 : wsr0.cell? ⟨w5.heap.size, 2, none⟩ = some (.int .i64 tB) := (bB_w10.out.grow hsr0.out).cell 2
  have cbB3 : wsr0.cell? ⟨w5.heap.size, 3, none⟩ = some (.slice az PB.length ccz) := (bB_w10.out.grow hsr0.out).cell 3
  have cbC0 : wsr0.cell? ⟨w6.heap.size, 0, none⟩ = some (.int .i64 nB) := (bC_w10.out.grow hsr0.out).cell 0
  have cbC1 : wsr0.cell? ⟨w6.heap.size, 1, none⟩ = some (.slice ku keyB.length kku) := (bC_w10.out.grow hsr0.out).cell 1
  have cbC2 : wsr0.cell? ⟨w6.heap.size, 2, none⟩ = some (.int .i64 tB) := (bC_w10.out.grow hsr0.out).cell 2
  have cbC3 : wsr0.cell? ⟨w6.heap.size, 3, none⟩ = some (.slice au PB.length ccu) := (bC_w10.out.grow hsr0.out).cell 3
  go_wp2_with fail
  refine (C12.out _ hsr0.out).mono ?_
  rintro e wsr1 ⟨rfl, hy⟩
  have hsr1 : Hid (Below w10.heap.size w10 wsr1) := grow_on hsr0.out hy
  clear hy cbB0 cbB1 cbB2 cbB3 cbC0 cbC1 cbC2 cbC3
  clear hsr0
  have cbB0 : wsr1.cell? ⟨w5.heap.size, 0, none⟩ = some (.int .i64 nB) := (bB_w10.out.grow hsr1.out).cell 0
  have cbB1 : wsr1.cell? ⟨w5.heap.size, 1, none⟩ = some (.slice kz keyB.length kkz) := (bB_w10.out.grow hsr1.out).cell 1
  have cbB2 : wsr1.cell? ⟨w5.heap.size, 2, none⟩ = some (.int .i64 tB) := (bB_w10.out.grow hsr1.out).cell 2
  have cbB3 : wsr1.cell? ⟨w5.heap.size, 3, none⟩ = some (.slice az PB.length ccz) := (bB_w10.out.grow hsr1.out).cell 3
  have cbC0 : wsr1.cell? ⟨w6.heap.size, 0, none⟩ = some (.int .i64 nB) := (bC_w10.out.grow hsr1.out).cell 0
  have cbC1 : wsr1.cell? ⟨w6.heap.size, 1, none⟩ = some (.slice ku keyB.length kku) := (bC_w10.out.grow hsr1.out).cell 1
  have cbC2 : wsr1.cell? ⟨w6.heap.size, 2, none⟩ = some (.int .i64 tB) := (bC_w10.out.grow hsr1.out).cell 2
  have cbC3 : wsr1.cell? ⟨w6.heap.size, 3, none⟩ = some (.slice au PB.length ccu) := (bC_w10.out.grow hsr1.out).cell 3
  go_wp2_with fail
  refine (C18.out _ hsr1.out).mono ?_
  rintro e wsr2 ⟨rfl, hy⟩
  have hsr2 : Hid (Below w10.heap.size w10 wsr2) := grow_on hsr1.out hy
  clear hy cbB0 cbB1 cbB2 cbB3 cbC0 cbC1 cbC2 cbC3
  clear hsr1
  have cbB0 : wsr2.cell? ⟨w5.heap.size, 0, none⟩ = some (.int .i64 nB) := (bB_w10.out.grow hsr2.out).cell 0
  have cbB1 : wsr2.cell? ⟨w5.heap.size, 1, none⟩ = some (.slice kz keyB.length kkz) := (bB_w10.out.grow hsr2.out).cell 1
  have cbB2 : wsr2.cell? ⟨w5.heap.size, 2, none⟩ = some (.int .i64 tB) := (bB_w10.out.grow hsr2.out).cell 2
  have cbB3 : wsr2.cell? ⟨w5.heap.size, 3, none⟩ = some (.slice az PB.length ccz) := (bB_w10.out.grow hsr2.out).cell 3
  have cbC0 : wsr2.cell? ⟨w6.heap.size, 0, none⟩ = some (.int .i64 nB) := (bC_w10.out.grow hsr2.out).cell 0
  have cbC1 : wsr2.cell? ⟨w6.heap.size, 1, none⟩ = some (.slice ku keyB.length kku) := (bC_w10.out.grow hsr2.out).cell 1
  have cbC2 : wsr2.cell? ⟨w6.heap.size, 2, none⟩ = some (.int .i64 tB) := (bC_w10.out.grow hsr2.out).cell 2
  have cbC3 : wsr2.cell? ⟨w6.heap.size, 3, none⟩ = some (.slice au PB.length ccu) := (bC_w10.out.grow hsr2.out).cell 3
  go_wp2_with fail
  refine (C29.out _ hsr2.out).mono ?_
  rintro e wsr3 ⟨rfl, hy⟩
  have hsr3 : Hid (Below w10.heap.size w10 wsr3) := grow_on hsr2.out hy
  clear hy cbB0 cbB1 cbB2 cbB3 cbC0 cbC1 cbC2 cbC3
  clear hsr2
  have cbB0 : wsr3.cell? ⟨w5.heap.size, 0, none⟩ = some (.int .i64 nB) := (bB_w10.out.grow hsr3.out).cell 0
  have cbB1 : wsr3.cell? ⟨w5.heap.size, 1, none⟩ = some (.slice kz keyB.length kkz) := (bB_w10.out.grow hsr3.out).cell 1
  have cbB2 : wsr3.cell? ⟨w5.heap.size, 2, none⟩ = some (.int .i64 tB) := (bB_w10.out.grow hsr3.out).cell 2
  have cbB3 : wsr3.cell? ⟨w5.heap.size, 3, none⟩ = some (.slice az PB.length ccz) := (bB_w10.out.grow hsr3.out).cell 3
  have cbC0 : wsr3.cell? ⟨w6.heap.size, 0, none⟩ = some (.int .i64 nB) := (bC_w10.out.grow hsr3.out).cell 0
  have cbC1 : wsr3.cell? ⟨w6.heap.size, 1, none⟩ = some (.slice ku keyB.length kku) := (bC_w10.out.grow hsr3.out).cell 1
  have cbC2 : wsr3.cell? ⟨w6.heap.size, 2, none⟩ = some (.int .i64 tB) := (bC_w10.out.grow hsr3.out).cell 2
  have cbC3 : wsr3.cell? ⟨w6.heap.size, 3, none⟩ = some (.slice au PB.length ccu) := (bC_w10.out.grow hsr3.out).cell 3
  go_wp2_with fail
  refine (C32.out _ hsr3.out).mono ?_
  rintro e wsr4 ⟨rfl, hy⟩
  have hsr4 : Hid (Below w10.heap.size w10 wsr4) := grow_on hsr3.out hy
  clear hy cbB0 cbB1 cbB2 cbB3 cbC0 cbC1 cbC2 cbC3
  clear hsr3
  have cbB0 : wsr4.cell? ⟨w5.heap.size, 0, none⟩ = some (.int .i64 nB) := (bB_w10.out.grow hsr4.out).cell 0
  have cbB1 : wsr4.cell? ⟨w5.heap.size, 1, none⟩ = some (.slice kz keyB.length kkz) := (bB_w10.out.grow hsr4.out).cell 1
  have cbB2 : wsr4.cell? ⟨w5.heap.size, 2, none⟩ = some (.int .i64 tB) := (bB_w10.out.grow hsr4.out).cell 2
  have cbB3 : wsr4.cell? ⟨w5.heap.size, 3, none⟩ = some (.slice az PB.length ccz) := (bB_w10.out.grow hsr4.out).cell 3
  have cbC0 : wsr4.cell? ⟨w6.heap.size, 0, none⟩ = some (.int .i64 nB) := (bC_w10.out.grow hsr4.out).cell 0
  have cbC1 : wsr4.cell? ⟨w6.heap.size, 1, none⟩ = some (.slice ku keyB.length kku) := (bC_w10.out.grow hsr4.out).cell 1
  have cbC2 : wsr4.cell? ⟨w6.heap.size, 2, none⟩ = some (.int .i64 tB) := (bC_w10.out.grow hsr4.out).cell 2
  have cbC3 : wsr4.cell? ⟨w6.heap.size, 3, none⟩ = some (.slice au PB.length ccu) := (bC_w10.out.grow hsr4.out).cell 3
  go_wp2_with fail
  refine (C38.out _ hsr4.out).mono ?_
  rintro e wsr5 ⟨rfl, hy⟩
  have hsr5 : Hid (Below w10.heap.size w10 wsr5) := grow_on hsr4.out hy
  clear hy cbB0 cbB1 cbB2 cbB3 cbC0 cbC1 cbC2 cbC3
  clear hsr4
  have cbB0 : wsr5.cell? ⟨w5.heap.size, 0, none⟩ = some (.int .i64 nB) := (bB_w10.out.grow hsr5.out).cell 0
  have cbB1 : wsr5.cell? ⟨w5.heap.size, 1, none⟩ = some (.slice kz keyB.length kkz) := (bB_w10.out.grow hsr5.out).cell 1
  have cbB2 : wsr5.cell? ⟨w5.heap.size, 2, none⟩ = some (.int .i64 tB) := (bB_w10.out.grow hsr5.out).cell 2
  have cbB3 : wsr5.cell? ⟨w5.heap.size, 3, none⟩ = some (.slice az PB.length ccz) := (bB_w10.out.grow hsr5.out).cell 3
  have cbC0 : wsr5.cell? ⟨w6.heap.size, 0, none⟩ = some (.int .i64 nB) := (bC_w10.out.grow hsr5.out).cell 0
  have cbC1 : wsr5.cell? ⟨w6.heap.size, 1, none⟩ = some (.slice ku keyB.length kku) := (bC_w10.out.grow hsr5.out).cell 1
  have cbC2 : wsr5.cell? ⟨w6.heap.size, 2, none⟩ = some (.int .i64 tB) := (bC_w10.out.grow hsr5.out).cell 2
  have cbC3 : wsr5.cell? ⟨w6.heap.size, 3, none⟩ = some (.slice au PB.length ccu) := (bC_w10.out.grow hsr5.out).cell 3
  go_wp2_with fail
  refine (C41.out _ hsr5.out).mono ?_
  rintro e wsr6 ⟨rfl, hy⟩
  have hsr6 : Hid (Below w10.heap.size w10 wsr6) := grow_on hsr5.out hy
  clear hy cbB0 cbB1 cbB2 cbB3 cbC0 cbC1 cbC2 cbC3
  clear hsr5
  have cbB0 : wsr6.cell? ⟨w5.heap.size, 0, none⟩ = some (.int .i64 nB) := (bB_w10.out.grow hsr6.out).cell 0
  have cbB1 : wsr6.cell? ⟨w5.heap.size, 1, none⟩ = some (.slice kz keyB.length kkz) := (bB_w10.out.grow hsr6.out).cell 1
  have cbB2 : wsr6.cell? ⟨w5.heap.size, 2, none⟩ = some (.int .i64 tB) := (bB_w10.out.grow hsr6.out).cell 2
  have cbB3 : wsr6.cell? ⟨w5.heap.size, 3, none⟩ = some (.slice az PB.length ccz) := (bB_w10.out.grow hsr6.out).cell 3
  have cbC0 : wsr6.cell? ⟨w6.heap.size, 0, none⟩ = some (.int .i64 nB) := (bC_w10.out.grow hsr6.out).cell 0
  have cbC1 : wsr6.cell? ⟨w6.heap.size, 1, none⟩ = some (.slice ku keyB.length kku) := (bC_w10.out.grow hsr6.out).cell 1
  have cbC2 : wsr6.cell? ⟨w6.heap.size, 2, none⟩ = some (.int .i64 tB) := (bC_w10.out.grow hsr6.out).cell 2
  have cbC3 : wsr6.cell? ⟨w6.heap.size, 3, none⟩ = some (.slice au PB.length ccu) := (bC_w10.out.grow hsr6.out).cell 3
  go_wp2_with fail
  refine (C47.out _ hsr6.out).mono ?_
  rintro e wsr7 ⟨rfl, hy⟩
  have hsr7 : Hid (Below w10.heap.size w10 wsr7) := grow_on hsr6.out hy
  clear hy cbB0 cbB1 cbB2 cbB3 cbC0 cbC1 cbC2 cbC3
  clear hsr6
  have cbB0 : wsr7.cell? ⟨w5.heap.size, 0, none⟩ = some (.int .i64 nB) := (bB_w10.out.grow hsr7.out).cell 0
  have cbB1 : wsr7.cell? ⟨w5.heap.size, 1, none⟩ = some (.slice kz keyB.length kkz) := (bB_w10.out.grow hsr7.out).cell 1
  have cbB2 : wsr7.cell? ⟨w5.heap.size, 2, none⟩ = some (.int .i64 tB) := (bB_w10.out.grow hsr7.out).cell 2
  have cbB3 : wsr7.cell? ⟨w5.heap.size, 3, none⟩ = some (.slice az PB.length ccz) := (bB_w10.out.grow hsr7.out).cell 3
  have cbC0 : wsr7.cell? ⟨w6.heap.size, 0, none⟩ = some (.int .i64 nB) := (bC_w10.out.grow hsr7.out).cell 0
  have cbC1 : wsr7.cell? ⟨w6.heap.size, 1, none⟩ = some (.slice ku keyB.length kku) := (bC_w10.out.grow hsr7.out).cell 1
  have cbC2 : wsr7.cell? ⟨w6.heap.size, 2, none⟩ = some (.int .i64 tB) := (bC_w10.out.grow hsr7.out).cell 2
  have cbC3 : wsr7.cell? ⟨w6.heap.size, 3, none⟩ = some (.slice au PB.length ccu) := (bC_w10.out.grow hsr7.out).cell 3
  go_wp2_with fail
  refine (C50.out _ hsr7.out).mono ?_
  rintro e wsr8 ⟨rfl, hy⟩
  have hsr8 : Hid (Below w10.heap.size w10 wsr8) := grow_on hsr7.out hy
  clear hy cbB0 cbB1 cbB2 cbB3 cbC0 cbC1 cbC2 cbC3
  clear hsr7
  have cbB0 : wsr8.cell? ⟨w5.heap.size, 0, none⟩ = some (.int .i64 nB) := (bB_w10.out.grow hsr8.out).cell 0
  have cbB1 : wsr8.cell? ⟨w5.heap.size, 1, none⟩ = some (.slice kz keyB.length kkz) := (bB_w10.out.grow hsr8.out).cell 1
  have cbB2 : wsr8.cell? ⟨w5.heap.size, 2, none⟩ = some (.int .i64 tB) := (bB_w10.out.grow hsr8.out).cell 2
  have cbB3 : wsr8.cell? ⟨w5.heap.size, 3, none⟩ = some (.slice az PB.length ccz) := (bB_w10.out.grow hsr8.out).cell 3
  have cbC0 : wsr8.cell? ⟨w6.heap.size, 0, none⟩ = some (.int .i64 nB) := (bC_w10.out.grow hsr8.out).cell 0
  have cbC1 : wsr8.cell? ⟨w6.heap.size, 1, none⟩ = some (.slice ku keyB.length kku) := (bC_w10.out.grow hsr8.out).cell 1
  have cbC2 : wsr8.cell? ⟨w6.heap.size, 2, none⟩ = some (.int .i64 tB) := (bC_w10.out.grow hsr8.out).cell 2
  have cbC3 : wsr8.cell? ⟨w6.heap.size, 3, none⟩ = some (.slice au PB.length ccu) := (bC_w10.out.grow hsr8.out).cell 3
  go_wp2_with fail
  refine (C56.out _ hsr8.out).mono ?_
  rintro e wsr9 ⟨rfl, hy⟩
  have hsr9 : Hid (Below w10.heap.size w10 wsr9) := grow_on hsr8.out hy
  clear hy cbB0 cbB1 cbB2 cbB3 cbC0 cbC1 cbC2 cbC3
  clear hsr8
  have cbB0 : wsr9.cell? ⟨w5.heap.size, 0, none⟩ = some (.int .i64 nB) := (bB_w10.out.grow hsr9.out).cell 0
  have cbB1 : wsr9.cell? ⟨w5.heap.size, 1, none⟩ = some (.slice kz keyB.length kkz) := (bB_w10.out.grow hsr9.out).cell 1
  have cbB2 : wsr9.cell? ⟨w5.heap.size, 2, none⟩ = some (.int .i64 tB) := (bB_w10.out.grow hsr9.out).cell 2
  have cbB3 : wsr9.cell? ⟨w5.heap.size, 3, none⟩ = some (.slice az PB.length ccz) := (bB_w10.out.grow hsr9.out).cell 3
  have cbC0 : wsr9.cell? ⟨w6.heap.size, 0, none⟩ = some (.int .i64 nB) := (bC_w10.out.grow hsr9.out).cell 0
  have cbC1 : wsr9.cell? ⟨w6.heap.size, 1, none⟩ = some (.slice ku keyB.length kku) := (bC_w10.out.grow hsr9.out).cell 1
  have cbC2 : wsr9.cell? ⟨w6.heap.size, 2, none⟩ = some (.int .i64 tB) := (bC_w10.out.grow hsr9.out).cell 2
  have cbC3 : wsr9.cell? ⟨w6.heap.size, 3, none⟩ = some (.slice au PB.length ccu) := (bC_w10.out.grow hsr9.out).cell 3
  go_wp2_with fail
  refine (C59.out _ hsr9.out).mono ?_
  rintro e wsr10 ⟨rfl, hy⟩
  have hsr10 : Hid (Below w10.heap.size w10 wsr10) := grow_on hsr9.out hy
  clear hy cbB0 cbB1 cbB2 cbB3 cbC0 cbC1 cbC2 cbC3
  clear hsr9
  have cbB0 : wsr10.cell? ⟨w5.heap.size, 0, none⟩ = some (.int .i64 nB) := (bB_w10.out.grow hsr10.out).cell 0
  have cbB1 : wsr10.cell? ⟨w5.heap.size, 1, none⟩ = some (.slice kz keyB.length kkz) := (bB_w10.out.grow hsr10.out).cell 1
  have cbB2 : wsr10.cell? ⟨w5.heap.size, 2, none⟩ = some (.int .i64 tB) := (bB_w10.out.grow hsr10.out).cell 2
  have cbB3 : wsr10.cell? ⟨w5.heap.size, 3, none⟩ = some (.slice az PB.length ccz) := (bB_w10.out.grow hsr10.out).cell 3
  have cbC0 : wsr10.cell? ⟨w6.heap.size, 0, none⟩ = some (.int .i64 nB) := (bC_w10.out.grow hsr10.out).cell 0
  have cbC1 : wsr10.cell? ⟨w6.heap.size, 1, none⟩ = some (.slice ku keyB.length kku) := (bC_w10.out.grow hsr10.out).cell 1
  have cbC2 : wsr10.cell? ⟨w6.heap.size, 2, none⟩ = some (.int .i64 tB) := (bC_w10.out.grow hsr10.out).cell 2
  have cbC3 : wsr10.cell? ⟨w6.heap.size, 3, none⟩ = some (.slice au PB.length ccu) := (bC_w10.out.grow hsr10.out).cell 3
  go_upto_region 15 with fail
  clear cbB0 cbB1 cbB2 cbB3 cbC0 cbC1 cbC2 cbC3 C2 C12 C18 C29 C32 C38 C41 C47 C50 C56 C59 eq0 eq1 eq2 eq3 eq4 eq5 HB5
  clear RY_w10
  clear Ru_w10
  clear Ku_w10
  clear Pu_w10
  clear Kz_w10
  clear Pz_w10
  clear bC_w10
  clear D5_w10
  clear DB5_w10
  clear D6_w10
  clear Q6_w10
  clear D7_w10
  clear D8_w10
  clear Q8_w10
  have B_wsr10 : Hid (Below w.heap.size w wsr10) := grow_on B_w10.out hsr10.out
  have D1_wsr10 : Hid (RGs wsr10 M1 c1 U1) := D1_w10.out.below hsr10.out
  have DX_wsr10 : Hid (DAl wsr10 ga x) := DX_w10.out.below hsr10.out
  have DB_wsr10 : Hid (RdS wsr10 (some ⟨gb, 0, none⟩) by') := DB_w10.out.below hsr10.out
  have bA_wsr10 : Hid (Blk wsr10 w1.heap.size #[.slice (some ⟨ga, 0, none⟩) x.l.length ca, .int .i64 x.s, .int .i64 x.e, .string x.n] 27) := bA_w10.out.grow hsr10.out
  have RX_wsr10 : Hid (RdGs GA wsr10 (some ⟨Mx, 0, none⟩) V1) := RX_w10.out.below stays_ga hsr10.out
  have D2_wsr10 : Hid (RGs wsr10 M2 c2 U2) := D2_w10.out.below hsr10.out
  have Rz_wsr10 : Hid (RdGs GA wsr10 (some ⟨Mz, 0, none⟩) V2) := Rz_w10.out.below stays_ga hsr10.out
  have bB_wsr10 : Hid (Blk wsr10 w5.heap.size #[.int .i64 nB, .slice kz keyB.length kkz, .int .i64 tB, .slice az PB.length ccz] 37) := bB_w10.out.grow hsr10.out
  clear B_w10 D1_w10 DX_w10 DB_w10 bA_w10 RX_w10 D2_w10 Rz_w10 bB_w10
  clear hsr10 HFL
  have HK : Hid ((projB x.l by').length ≤ 8) := by have h1 := Pro.proj_len x.l by'; have h2 := F1.out.2.2.1.2; unfold Hid; omega
  have cbA0 : wsr10.cell? ⟨w1.heap.size, 0, none⟩ = some (.slice (some ⟨ga, 0, none⟩) x.l.length ca) := bA_wsr10.out.cell 0
  have cbA1 : wsr10.cell? ⟨w1.heap.size, 1, none⟩ = some (.int .i64 x.s) := bA_wsr10.out.cell 1
  have cbA2 : wsr10.cell? ⟨w1.heap.size, 2, none⟩ = some (.int .i64 x.e) := bA_wsr10.out.cell 2
  have cbA3 : wsr10.cell? ⟨w1.heap.size, 3, none⟩ = some (.string x.n) := bA_wsr10.out.cell 3
  go_wp2_with fail
  refine (Pro.implKey_any _ _ _ _ x.l x.s x.e x.n by' _ DX_wsr10.out.1 DB_wsr10.out (by have := F1.out.2.2.1.2; omega) (by have := F1.out.2.2.2; unfold maxLen; omega)).mono ?_
  rintro e wk ⟨⟨Kk, kk, rfl, ho⟩, hb⟩
  have NKK : Hid (Reads wk (some ⟨Kk, 0, none⟩) (projB x.l by')) := Pro.own_reads ho
  clear ho cbA0 cbA1 cbA2 cbA3
  have B_wk : Hid (Below w.heap.size w wk) := grow_on B_wsr10.out hb
  have D1_wk : Hid (RGs wk M1 c1 U1) := D1_wsr10.out.below hb
  have DX_wk : Hid (DAl wk ga x) := DX_wsr10.out.below hb
  have DB_wk : Hid (RdS wk (some ⟨gb, 0, none⟩) by') := DB_wsr10.out.below hb
  have bA_wk : Hid (Blk wk w1.heap.size #[.slice (some ⟨ga, 0, none⟩) x.l.length ca, .int .i64 x.s, .int .i64 x.e, .string x.n] 27) := bA_wsr10.out.grow hb
  have RX_wk : Hid (RdGs GA wk (some ⟨Mx, 0, none⟩) V1) := RX_wsr10.out.below stays_ga hb
  have D2_wk : Hid (RGs wk M2 c2 U2) := D2_wsr10.out.below hb
  have Rz_wk : Hid (RdGs GA wk (some ⟨Mz, 0, none⟩) V2) := Rz_wsr10.out.below stays_ga hb
  have bB_wk : Hid (Blk wk w5.heap.size #[.int .i64 nB, .slice kz keyB.length kkz, .int .i64 tB, .slice az PB.length ccz] 37) := bB_wsr10.out.grow hb
  clear B_wsr10 D1_wsr10 DX_wsr10 DB_wsr10 bA_wsr10 RX_wsr10 D2_wsr10 Rz_wsr10 bB_wsr10
  clear hb
  have KK_wk : Hid (Reads wk (some ⟨Kk, 0, none⟩) (projB x.l by')) := NKK.out
  clear NKK
  go_wp2_with fail
  refine (GpIo.implOf_any _ _ cx kk V1 (projB x.l by') _ RX_wk.out KK_wk.out (by have := FV.out.2; omega) (by have := HK.out; unfold maxLen; omega) (FinesG.keys FV.out.1)).mono ?_
  rintro e w11 ⟨rfl, hb⟩
  have B_w11 : Hid (Below w.heap.size w w11) := grow_on B_wk.out hb
  have D1_w11 : Hid (RGs w11 M1 c1 U1) := D1_wk.out.below hb
  have DX_w11 : Hid (DAl w11 ga x) := DX_wk.out.below hb
  have DB_w11 : Hid (RdS w11 (some ⟨gb, 0, none⟩) by') := DB_wk.out.below hb
  have bA_w11 : Hid (Blk w11 w1.heap.size #[.slice (some ⟨ga, 0, none⟩) x.l.length ca, .int .i64 x.s, .int .i64 x.e, .string x.n] 27) := bA_wk.out.grow hb
  have RX_w11 : Hid (RdGs GA w11 (some ⟨Mx, 0, none⟩) V1) := RX_wk.out.below stays_ga hb
  have D2_w11 : Hid (RGs w11 M2 c2 U2) := D2_wk.out.below hb
  have Rz_w11 : Hid (RdGs GA w11 (some ⟨Mz, 0, none⟩) V2) := Rz_wk.out.below stays_ga hb
  have bB_w11 : Hid (Blk w11 w5.heap.size #[.int .i64 nB, .slice kz keyB.length kkz, .int .i64 tB, .slice az PB.length ccz] 37) := bB_wk.out.grow hb
  have KK_w11 : Hid (Reads w11 (some ⟨Kk, 0, none⟩) (projB x.l by')) := KK_wk.out.below hb
  clear B_wk D1_wk DX_wk DB_wk bA_wk RX_wk D2_wk Rz_wk bB_wk KK_wk
  clear hb
  go_upto_region 16 with fail
  clear KK_w11
  have CK : Hid (∀ (u : World), Below w11.heap.size w11 u → Calls Tryz.prog 25 #[.agg #[.slice (some ⟨ga, 0, none⟩) x.l.length ca, .int .i64 x.s, .int .i64 x.e, .string x.n], .slice (some ⟨gb, 0, none⟩) by'.length gc] u fun e w' => (∃ K2 k2, e = .returned (.slice (some ⟨K2, 0, none⟩) (projB x.l by').length k2) ∧ Reads w' (some ⟨K2, 0, none⟩) (projB x.l by')) ∧ Below u.heap.size u w') := fun u hu => (Pro.implKey_any _ _ _ _ x.l x.s x.e x.n by' u (DX_w11.out.1.below hu) (DB_w11.out.below hu) (by have := F1.out.2.2.1.2; omega) (by have := F1.out.2.2.2; unfold maxLen; omega)).mono fun e w' ⟨⟨K2, k2, h1, h2⟩, h3⟩ => ⟨⟨K2, k2, h1, Pro.own_reads h2⟩, h3⟩
  have CO : Hid (∀ (u : World) (K2 k2 : Nat), Below w11.heap.size w11 u → Reads u (some ⟨K2, 0, none⟩) (projB x.l by') → Calls Tryz.prog 19 #[.slice (some ⟨M1, 0, none⟩) U1.length c1, .slice (some ⟨K2, 0, none⟩) (projB x.l by').length k2] u fun e w' => e = .returned (.int .i64 (ofI (keyIs (projB x.l by')) U1)) ∧ Below u.heap.size u w') := fun u K2 k2 hu hk => GpIo.implOf_any _ _ c1 k2 U1 (projB x.l by') u (D1_w11.out.rn.rd.below stays_ga hu) hk (by have := F1.out.2.1; omega) (by have := HK.out; unfold maxLen; omega) (FinesG.keys F1.out.1)
  have HJ := join_two U1 x by' 20 now
  rw [HV.out] at HJ
  rcases HJ with ⟨j1, j2, j3, j4, j5⟩ | ⟨j1, kj, j2, j3, j4, j5⟩
  ·
    rw [j1, j3]
    rw [j2] at CO
    have h7 : U1.length ≤ 7 := F1.out.2.1
    have hj0 : ((U1.length : Int) < 0) = False := by simp
    have hjl : (U1.length : Int) < (V1.length : Int) := by omega
    have hj1 : (0 : Int) ≤ (U1.length : Int) := by omega
    have hw : IntKind.i64.wrap ((U1.length : Int) + 1) = (U1.length : Int) + 1 := by rw [IntKind.wrap_i64]; omega
    have eq1 : ((V1.length : Int) != (U1.length : Int) + 1) = false := by rw [j4]; simp
    have eq2 : ((20 : Int) != 20) = false := by simp
    have eq3 : (now != now) = false := by simp
    obtain ⟨bb, oo, ee, hbb, ka1, kc1, ad1, cp1, hat⟩ := RX_w11.out.get (i := U1.length) (by omega)
    cases ee
    have x0 := hat.c0
    have x2 := hat.c2
    have x4 := hat.c4
    rw [j5, Nat.zero_add] at x0 x2 x4
    simp only [List.length_singleton] at x4
    have XC : Hid (w11.cell? ⟨Mx, U1.length * 5, none⟩ = some (.int .i64 20) ∧ w11.cell? ⟨Mx, U1.length * 5 + 2, none⟩ = some (.int .i64 now) ∧ w11.cell? ⟨Mx, U1.length * 5 + 4, none⟩ = some (.slice ad1 1 cp1) ∧ Mx < w11.heap.size) := ⟨x0, x2, x4, hbb⟩
    clear x0 x2 x4 hbb hat
    have hsp : Hid (Below w11.heap.size w11 w11) := Below.refl _ _
    have cbA0 : w11.cell? ⟨w1.heap.size, 0, none⟩ = some (.slice (some ⟨ga, 0, none⟩) x.l.length ca) := (bA_w11.out.grow hsp.out).cell 0
    have cbA1 : w11.cell? ⟨w1.heap.size, 1, none⟩ = some (.int .i64 x.s) := (bA_w11.out.grow hsp.out).cell 1
    have cbA2 : w11.cell? ⟨w1.heap.size, 2, none⟩ = some (.int .i64 x.e) := (bA_w11.out.grow hsp.out).cell 2
    have cbA3 : w11.cell? ⟨w1.heap.size, 3, none⟩ = some (.string x.n) := (bA_w11.out.grow hsp.out).cell 3
    have d0 : w11.cell? ⟨Mx, U1.length * 5, none⟩ = some (.int .i64 20) := ((hsp.out).cell (p := ⟨Mx, U1.length * 5, none⟩) XC.out.2.2.2).trans XC.out.1
    have d1 : w11.cell? ⟨Mx, U1.length * 5 + 2, none⟩ = some (.int .i64 now) := ((hsp.out).cell (p := ⟨Mx, U1.length * 5 + 2, none⟩) XC.out.2.2.2).trans XC.out.2.1
    have d2 : w11.cell? ⟨Mx, U1.length * 5 + 4, none⟩ = some (.slice ad1 1 cp1) := ((hsp.out).cell (p := ⟨Mx, U1.length * 5 + 4, none⟩) XC.out.2.2.2).trans XC.out.2.2.1
    go_wp2_with fail
    refine (CK.out _ hsp.out).mono ?_
    rintro e wsp0 ⟨⟨K2, k2, rfl, hk2⟩, hy⟩
    have hsp0 : Hid (Below w11.heap.size w11 wsp0) := grow_on hsp.out hy
    clear hy cbA0 cbA1 cbA2 cbA3 d0 d1 d2
    have HK2 : Hid (Reads wsp0 (some ⟨K2, 0, none⟩) (projB x.l by')) := hk2
    clear hk2
    clear hsp
    have cbA0 : wsp0.cell? ⟨w1.heap.size, 0, none⟩ = some (.slice (some ⟨ga, 0, none⟩) x.l.length ca) := (bA_w11.out.grow hsp0.out).cell 0
    have cbA1 : wsp0.cell? ⟨w1.heap.size, 1, none⟩ = some (.int .i64 x.s) := (bA_w11.out.grow hsp0.out).cell 1
    have cbA2 : wsp0.cell? ⟨w1.heap.size, 2, none⟩ = some (.int .i64 x.e) := (bA_w11.out.grow hsp0.out).cell 2
    have cbA3 : wsp0.cell? ⟨w1.heap.size, 3, none⟩ = some (.string x.n) := (bA_w11.out.grow hsp0.out).cell 3
    have d0 : wsp0.cell? ⟨Mx, U1.length * 5, none⟩ = some (.int .i64 20) := ((hsp0.out).cell (p := ⟨Mx, U1.length * 5, none⟩) XC.out.2.2.2).trans XC.out.1
    have d1 : wsp0.cell? ⟨Mx, U1.length * 5 + 2, none⟩ = some (.int .i64 now) := ((hsp0.out).cell (p := ⟨Mx, U1.length * 5 + 2, none⟩) XC.out.2.2.2).trans XC.out.2.1
    have d2 : wsp0.cell? ⟨Mx, U1.length * 5 + 4, none⟩ = some (.slice ad1 1 cp1) := ((hsp0.out).cell (p := ⟨Mx, U1.length * 5 + 4, none⟩) XC.out.2.2.2).trans XC.out.2.2.1
    go_wp2_with fail
    refine (CO.out _ _ _ hsp0.out HK2.out).mono ?_
    rintro e wsp1 ⟨rfl, hy⟩
    have hsp1 : Hid (Below w11.heap.size w11 wsp1) := grow_on hsp0.out hy
    clear hy cbA0 cbA1 cbA2 cbA3 d0 d1 d2
    clear hsp0
    have cbA0 : wsp1.cell? ⟨w1.heap.size, 0, none⟩ = some (.slice (some ⟨ga, 0, none⟩) x.l.length ca) := (bA_w11.out.grow hsp1.out).cell 0
    have cbA1 : wsp1.cell? ⟨w1.heap.size, 1, none⟩ = some (.int .i64 x.s) := (bA_w11.out.grow hsp1.out).cell 1
    have cbA2 : wsp1.cell? ⟨w1.heap.size, 2, none⟩ = some (.int .i64 x.e) := (bA_w11.out.grow hsp1.out).cell 2
    have cbA3 : wsp1.cell? ⟨w1.heap.size, 3, none⟩ = some (.string x.n) := (bA_w11.out.grow hsp1.out).cell 3
    have d0 : wsp1.cell? ⟨Mx, U1.length * 5, none⟩ = some (.int .i64 20) := ((hsp1.out).cell (p := ⟨Mx, U1.length * 5, none⟩) XC.out.2.2.2).trans XC.out.1
    have d1 : wsp1.cell? ⟨Mx, U1.length * 5 + 2, none⟩ = some (.int .i64 now) := ((hsp1.out).cell (p := ⟨Mx, U1.length * 5 + 2, none⟩) XC.out.2.2.2).trans XC.out.2.1
    have d2 : wsp1.cell? ⟨Mx, U1.length * 5 + 4, none⟩ = some (.slice ad1 1 cp1) := ((hsp1.out).cell (p := ⟨Mx, U1.length * 5 + 4, none⟩) XC.out.2.2.2).trans XC.out.2.2.1
    go_upto_region 18 with fail
    clear cbA0 cbA1 cbA2 cbA3 d0 d1 d2 HK2 CK CO XC eq1 eq2 eq3 hw hj0 hjl hj1
    clear RX_w11
    clear bA_w11
    clear D1_w11
    clear DX_w11
    clear DB_w11
    have B_wsp1 : Hid (Below w.heap.size w wsp1) := grow_on B_w11.out hsp1.out
    have D2_wsp1 : Hid (RGs wsp1 M2 c2 U2) := D2_w11.out.below hsp1.out
    have Rz_wsp1 : Hid (RdGs GA wsp1 (some ⟨Mz, 0, none⟩) V2) := Rz_w11.out.below stays_ga hsp1.out
    have bB_wsp1 : Hid (Blk wsp1 w5.heap.size #[.int .i64 nB, .slice kz keyB.length kkz, .int .i64 tB, .slice az PB.length ccz] 37) := bB_w11.out.grow hsp1.out
    clear B_w11 D2_w11 Rz_w11 bB_w11
    clear hsp1
    cases hh : hit with
    | false =>
      have e2 : V2 = U2 := FF.out.2.2.2.2.2.1 hh
      have CS : Hid (∀ (u : World), Below wsp1.heap.size wsp1 u → Calls Tryz.prog 15 #[.slice (some ⟨Mz, 0, none⟩) V2.length cz, .slice (some ⟨M2, 0, none⟩) U2.length c2] u fun e w' => e = .returned (.bool true) ∧ Below u.heap.size u w') := fun u hu => by
        have h1 := Rz_wsp1.out.below stays_ga hu
        have h2 := D2_wsp1.out.rn.rd.below stays_ga hu
        rw [e2] at h1 ⊢
        exact sameGs_any _ _ cz c2 9 U2 u h1 h2 (by have := F2.out.2; omega) F2.out.1 (by omega)
      clear e2
      have hspf : Hid (Below wsp1.heap.size wsp1 wsp1) := Below.refl _ _
      go_wp2_with fail
      refine (CS.out _ hspf.out).mono ?_
      rintro e wspf0 ⟨rfl, hy⟩
      have hspf0 : Hid (Below wsp1.heap.size wsp1 wspf0) := grow_on hspf.out hy
      clear hy 
      clear hspf
      go_wp2
      go_ret
      exact ⟨rfl, grow_on B_wsp1.out hspf0.out⟩
    | true =>
      obtain ⟨e3, e4, e5⟩ := FF.out.2.2.2.2.2.2 hh
      have eq1 : (nB == k) = true := by rw [e3]; simp
      have eq2 : (tB == t) = true := by rw [e4]; simp
      have h7 : V2.length ≤ 7 := FF.out.2.1
      have h8 : U2.length ≤ 7 := F2.out.2
      have hw : IntKind.i64.wrap ((U2.length : Int) - 1) = (U2.length : Int) - 1 := by rw [IntKind.wrap_i64]; omega
      clear e3 e4
      rcases e5 with e5 | e5
      ·
        have eq3 : ((V2.length : Int) == (U2.length : Int)) = true := by rw [e5]; simp
        have hspt0 : Hid (Below wsp1.heap.size wsp1 wsp1) := Below.refl _ _
        have cbB0 : wsp1.cell? ⟨w5.heap.size, 0, none⟩ = some (.int .i64 nB) := (bB_wsp1.out.grow hspt0.out).cell 0
        have cbB1 : wsp1.cell? ⟨w5.heap.size, 1, none⟩ = some (.slice kz keyB.length kkz) := (bB_wsp1.out.grow hspt0.out).cell 1
        have cbB2 : wsp1.cell? ⟨w5.heap.size, 2, none⟩ = some (.int .i64 tB) := (bB_wsp1.out.grow hspt0.out).cell 2
        have cbB3 : wsp1.cell? ⟨w5.heap.size, 3, none⟩ = some (.slice az PB.length ccz) := (bB_wsp1.out.grow hspt0.out).cell 3
        go_wp2
        go_ret
        exact ⟨rfl, B_wsp1.out⟩
      ·
        have eq3 : ((V2.length : Int) == (U2.length : Int)) = false := by simp; omega
        have eq4 : ((V2.length : Int) == (U2.length : Int) - 1) = true := by simp; omega
        have hspt1 : Hid (Below wsp1.heap.size wsp1 wsp1) := Below.refl _ _
        have cbB0 : wsp1.cell? ⟨w5.heap.size, 0, none⟩ = some (.int .i64 nB) := (bB_wsp1.out.grow hspt1.out).cell 0
        have cbB1 : wsp1.cell? ⟨w5.heap.size, 1, none⟩ = some (.slice kz keyB.length kkz) := (bB_wsp1.out.grow hspt1.out).cell 1
        have cbB2 : wsp1.cell? ⟨w5.heap.size, 2, none⟩ = some (.int .i64 tB) := (bB_wsp1.out.grow hspt1.out).cell 2
        have cbB3 : wsp1.cell? ⟨w5.heap.size, 3, none⟩ = some (.slice az PB.length ccz) := (bB_wsp1.out.grow hspt1.out).cell 3
        go_wp2
        go_ret
        exact ⟨rfl, B_wsp1.out⟩
  ·
    rw [j1, j3]
    rw [j2] at CO
    have h7 : U1.length ≤ 7 := F1.out.2.1
    have hw : ¬ ((kj : Int) < 0) := by omega
    have eq1 : ((V1.length : Int) != (U1.length : Int)) = false := by rw [j5]; simp
    have hsq : Hid (Below w11.heap.size w11 w11) := Below.refl _ _
    have cbA0 : w11.cell? ⟨w1.heap.size, 0, none⟩ = some (.slice (some ⟨ga, 0, none⟩) x.l.length ca) := (bA_w11.out.grow hsq.out).cell 0
    have cbA1 : w11.cell? ⟨w1.heap.size, 1, none⟩ = some (.int .i64 x.s) := (bA_w11.out.grow hsq.out).cell 1
    have cbA2 : w11.cell? ⟨w1.heap.size, 2, none⟩ = some (.int .i64 x.e) := (bA_w11.out.grow hsq.out).cell 2
    have cbA3 : w11.cell? ⟨w1.heap.size, 3, none⟩ = some (.string x.n) := (bA_w11.out.grow hsq.out).cell 3
    go_wp2_with fail
    refine (CK.out _ hsq.out).mono ?_
    rintro e wsq0 ⟨⟨K2, k2, rfl, hk2⟩, hy⟩
    have hsq0 : Hid (Below w11.heap.size w11 wsq0) := grow_on hsq.out hy
    clear hy cbA0 cbA1 cbA2 cbA3
    have HK2 : Hid (Reads wsq0 (some ⟨K2, 0, none⟩) (projB x.l by')) := hk2
    clear hk2
    clear hsq
    have cbA0 : wsq0.cell? ⟨w1.heap.size, 0, none⟩ = some (.slice (some ⟨ga, 0, none⟩) x.l.length ca) := (bA_w11.out.grow hsq0.out).cell 0
    have cbA1 : wsq0.cell? ⟨w1.heap.size, 1, none⟩ = some (.int .i64 x.s) := (bA_w11.out.grow hsq0.out).cell 1
    have cbA2 : wsq0.cell? ⟨w1.heap.size, 2, none⟩ = some (.int .i64 x.e) := (bA_w11.out.grow hsq0.out).cell 2
    have cbA3 : wsq0.cell? ⟨w1.heap.size, 3, none⟩ = some (.string x.n) := (bA_w11.out.grow hsq0.out).cell 3
    go_wp2_with fail
    refine (CO.out _ _ _ hsq0.out HK2.out).mono ?_
    rintro e wsq1 ⟨rfl, hy⟩
    have hsq1 : Hid (Below w11.heap.size w11 wsq1) := grow_on hsq0.out hy
    clear hy cbA0 cbA1 cbA2 cbA3
    clear hsq0
    have cbA0 : wsq1.cell? ⟨w1.heap.size, 0, none⟩ = some (.slice (some ⟨ga, 0, none⟩) x.l.length ca) := (bA_w11.out.grow hsq1.out).cell 0
    have cbA1 : wsq1.cell? ⟨w1.heap.size, 1, none⟩ = some (.int .i64 x.s) := (bA_w11.out.grow hsq1.out).cell 1
    have cbA2 : wsq1.cell? ⟨w1.heap.size, 2, none⟩ = some (.int .i64 x.e) := (bA_w11.out.grow hsq1.out).cell 2
    have cbA3 : wsq1.cell? ⟨w1.heap.size, 3, none⟩ = some (.string x.n) := (bA_w11.out.grow hsq1.out).cell 3
    go_upto_region 18 with fail
    clear cbA0 cbA1 cbA2 cbA3 HK2 CK CO eq1 hw
    clear RX_w11
    clear bA_w11
    clear D1_w11
    clear DX_w11
    clear DB_w11
    have B_wsq1 : Hid (Below w.heap.size w wsq1) := grow_on B_w11.out hsq1.out
    have D2_wsq1 : Hid (RGs wsq1 M2 c2 U2) := D2_w11.out.below hsq1.out
    have Rz_wsq1 : Hid (RdGs GA wsq1 (some ⟨Mz, 0, none⟩) V2) := Rz_w11.out.below stays_ga hsq1.out
    have bB_wsq1 : Hid (Blk wsq1 w5.heap.size #[.int .i64 nB, .slice kz keyB.length kkz, .int .i64 tB, .slice az PB.length ccz] 37) := bB_w11.out.grow hsq1.out
    clear B_w11 D2_w11 Rz_w11 bB_w11
    clear hsq1
    cases hh : hit with
    | false =>
      have e2 : V2 = U2 := FF.out.2.2.2.2.2.1 hh
      have CS : Hid (∀ (u : World), Below wsq1.heap.size wsq1 u → Calls Tryz.prog 15 #[.slice (some ⟨Mz, 0, none⟩) V2.length cz, .slice (some ⟨M2, 0, none⟩) U2.length c2] u fun e w' => e = .returned (.bool true) ∧ Below u.heap.size u w') := fun u hu => by
        have h1 := Rz_wsq1.out.below stays_ga hu
        have h2 := D2_wsq1.out.rn.rd.below stays_ga hu
        rw [e2] at h1 ⊢
        exact sameGs_any _ _ cz c2 9 U2 u h1 h2 (by have := F2.out.2; omega) F2.out.1 (by omega)
      clear e2
      have hsqf : Hid (Below wsq1.heap.size wsq1 wsq1) := Below.refl _ _
      go_wp2_with fail
      refine (CS.out _ hsqf.out).mono ?_
      rintro e wsqf0 ⟨rfl, hy⟩
      have hsqf0 : Hid (Below wsq1.heap.size wsq1 wsqf0) := grow_on hsqf.out hy
      clear hy 
      clear hsqf
      go_wp2
      go_ret
      exact ⟨rfl, grow_on B_wsq1.out hsqf0.out⟩
    | true =>
      obtain ⟨e3, e4, e5⟩ := FF.out.2.2.2.2.2.2 hh
      have eq1 : (nB == k) = true := by rw [e3]; simp
      have eq2 : (tB == t) = true := by rw [e4]; simp
      have h7 : V2.length ≤ 7 := FF.out.2.1
      have h8 : U2.length ≤ 7 := F2.out.2
      have hw : IntKind.i64.wrap ((U2.length : Int) - 1) = (U2.length : Int) - 1 := by rw [IntKind.wrap_i64]; omega
      clear e3 e4
      rcases e5 with e5 | e5
      ·
        have eq3 : ((V2.length : Int) == (U2.length : Int)) = true := by rw [e5]; simp
        have hsqt0 : Hid (Below wsq1.heap.size wsq1 wsq1) := Below.refl _ _
        have cbB0 : wsq1.cell? ⟨w5.heap.size, 0, none⟩ = some (.int .i64 nB) := (bB_wsq1.out.grow hsqt0.out).cell 0
        have cbB1 : wsq1.cell? ⟨w5.heap.size, 1, none⟩ = some (.slice kz keyB.length kkz) := (bB_wsq1.out.grow hsqt0.out).cell 1
        have cbB2 : wsq1.cell? ⟨w5.heap.size, 2, none⟩ = some (.int .i64 tB) := (bB_wsq1.out.grow hsqt0.out).cell 2
        have cbB3 : wsq1.cell? ⟨w5.heap.size, 3, none⟩ = some (.slice az PB.length ccz) := (bB_wsq1.out.grow hsqt0.out).cell 3
        go_wp2
        go_ret
        exact ⟨rfl, B_wsq1.out⟩
      ·
        have eq3 : ((V2.length : Int) == (U2.length : Int)) = false := by simp; omega
        have eq4 : ((V2.length : Int) == (U2.length : Int) - 1) = true := by simp; omega
        have hsqt1 : Hid (Below wsq1.heap.size wsq1 wsq1) := Below.refl _ _
        have cbB0 : wsq1.cell? ⟨w5.heap.size, 0, none⟩ = some (.int .i64 nB) := (bB_wsq1.out.grow hsqt1.out).cell 0
        have cbB1 : wsq1.cell? ⟨w5.heap.size, 1, none⟩ = some (.slice kz keyB.length kkz) := (bB_wsq1.out.grow hsqt1.out).cell 1
        have cbB2 : wsq1.cell? ⟨w5.heap.size, 2, none⟩ = some (.int .i64 tB) := (bB_wsq1.out.grow hsqt1.out).cell 2
        have cbB3 : wsq1.cell? ⟨w5.heap.size, 3, none⟩ = some (.slice az PB.length ccz) := (bB_wsq1.out.grow hsqt1.out).cell 3
        go_wp2
        go_ret
        exact ⟨rfl, B_wsq1.out⟩

theorem walk (a : Option Addr) (len cap : Nat) (zs : List Int) (w : World) (h : IsRow .u8 w a len cap zs) :
    Calls Tryz.prog 3 #[.slice a len cap] w fun e w' => e = .returned (.bool true) ∧ Below w.heap.size w w' := by
  obtain ⟨hl, hb⟩ := bytes_of h
  exact core a len cap w hl hb
theorem own : ownKnob Tryz.prog.godebug = none := by kernel_rfl
theorem laidOut : laidOutB Tryz.prog = true := by kernel_rfl
set_option maxRecDepth 100000 in
theorem lifted (os : Os) (started : os.Started) (H : Type) (enc : TypeId × Value → H) :
    ReturnsInHanded {} Tryz.checked os 3 .any (Rows.fnGroupsSpec.pre6 enc Tryz.prog Tryz.f3 Rows.fnGroupsRow.domain false) (Rows.fnGroupsSpec.post enc Tryz.prog Tryz.f3 false true false false) := by
  refine returnsInHanded_of_change (C := Tryz.checked) own started (by kernel_rfl) Tryz.func3
    (ChangeSpec.witness6 (enc := enc) (C := Tryz.checked) false ⟨#[], #[.slice none 0 0], []⟩ 8 (by kernel_rfl) (by kernel_rfl) (by kernel_rfl) (by kernel_rfl)) ?_
  intro W base args ds gs before hval0 hW hcnd _
  have hval : ∀ (j : Nat) t v, Tryz.f3.params[j]? = some t → args[j]? = some v → Value.okWide Tryz.prog W .any base t v := hval0
  have hW' := hW
  obtain ⟨p, q, hA0, hV, rfl, hfz, hnd⟩ := hW
  have hA : DataW.TrodAll enc Tryz.prog W 0 (fun _ => true) true Tryz.f3.params.toList args.toList ds p := hA0
  rw [Tryz.params3] at hA hval
  obtain ⟨v0, vs0, d0, ds0, p0, q0, hargs, rfl, rfl, h0, r0⟩ := trodAll_cons hA
  obtain ⟨rfl, rfl, rfl⟩ := trodAll_nil r0
  obtain rfl : args = #[v0] := by cases args; simp_all
  obtain ⟨rfl, rfl⟩ := trodVars_none hV
  obtain ⟨a0, len0, cap0, rfl⟩ := okWide_slice Tryz.underlying22 (hval 0 22 v0 rfl rfl)
  have k0 := h0
  have lt0 : ∀ x ∈ p0, x.block < W.heap.size := by obtain ⟨m, hm⟩ := k0; exact DataW.trod_lt m _ _ _ hm
  obtain ⟨z0, w0⟩ : ∃ zs, IsRow .u8 W a0 len0 cap0 zs := by
    obtain ⟨fuel, hf⟩ := h0
    rcases open_ints Tryz.underlying22 Tryz.underlying5 (by kernel_rfl) hf with ⟨hcs, _⟩ | ⟨x, l, c, zs, hcs, _, hl, hm, hz, _, hcell, hwz⟩
    · simp [Value.cells] at hcs
      obtain ⟨rfl, rfl, rfl⟩ := hcs
      exact ⟨[], .inl ⟨rfl, rfl, rfl, rfl⟩⟩
    · simp [Value.cells] at hcs
      obtain ⟨rfl, rfl, rfl⟩ := hcs
      exact ⟨zs, .inr ⟨_, rfl, hl, hm, by simpa using hz, hcell, hwz⟩⟩
  clear hA0 hval0
  refine (walk a0 len0 cap0 z0 W w0).mono fun e W' ⟨he, bel⟩ => ?_
  subst he
  exact ⟨_, rfl, _, _, _, [], _, [], hW', trodAll_mk1 (shut_bool Tryz.underlying4 _), (trodAll_cons_mk (Below.trod laidOut (by kernel_rfl) (of_decide_eq_true (by kernel_rfl)) k0 bel lt0) trodAll_mk0), rfl, bel.frame _, fun h => by cases h⟩

theorem over : Rows.fnGroupsRow.holds Tryz.pinned (OpenSpec.ofChange Rows.fnGroupsSpec) :=
  OpenClaim.holds_of_wide 3 Tryz.f3 rfl rfl rfl rfl rfl rfl rfl ⟨rfl, rfl, rfl, rfl, rfl⟩ rfl rfl rfl rfl rfl (by kernel_rfl) Tryz.func3 (by kernel_rfl)
    (of_decide_eq_true (by kernel_rfl)) (by unfold Func.isWrapper; first | (rw [if_pos (by decide +kernel)]; kernel_rfl) | (rw [if_neg (by decide +kernel)]; exact ⟨rfl, rfl⟩))
    (fun os started H enc _ => lifted os started H enc)

end Go.Proofs.YtgncimlojbnbfaaGreat.FnGroups
namespace Go.Proofs.YtgncimlojbnbfaaGreat
theorem fnGroups_holds : Rows.FnGroupsSaid := FnGroups.over
#print axioms fnGroups_holds
end Go.Proofs.YtgncimlojbnbfaaGreat
