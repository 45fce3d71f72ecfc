/-
  PROVED: whatever the code, the law laws.FnStoresBent returns true and leaves the code as it was: of the drawn stores, bent or not, each function of chapter 8 answers as the specification has it; a new store is right, and nothing is in it. No condition.
-/
import Derived.Test.YtooninmicfcfoaaGreatRows
import Derived.WalkKit
import Derived.ProofKit
import Derived.OpenShut
import Derived.ShutString
import Derived.ChangeOld
import Derived.Below
import Derived.WalkLawsBesides
import Derived.WalkSpells
import Derived.Test.YtooninmicfcfoaaGreatQDrwZ
import Derived.Deep.RegionHeld3
set_option linter.unusedVariables false
namespace Go.Proofs.YtooninmicfcfoaaGreat.FnStoresBent
open Go.ChangeShapes Go.WideShapes Go.ChangeAt Go.RowKit
open Go.ChangeMaps (open_string shut_string)

open Labs LabS Draw LawB Over Blk Alms AlmS Rws ChnI ChnS DrawC DrawE Sts StsF StsH StsK StsN StsO StsP StsA DrwX DrwY DrwZ
open DrwW (findSD)
open SrtP (sortP sort_perm)

theorem finesP {P : List PAl} (h : Fines P) : LenP P := ChnP.len_m h.lens
theorem fine_max {x : PAl} (h : Fine x) : x.l.length ≤ maxLen := by have := h.2; unfold maxLen; omega
set_option maxRecDepth 100000 in
set_option maxHeartbeats 40000000 in
theorem core (a : Option Addr) (len cap : Nat) (w : World) (hl : len ≤ maxLen) (hb : Bytes w a len w.heap.size) :
    Calls Tryz.prog 5 #[.slice a len cap] w fun e w' => e = .returned (.bool true) ∧ Below w.heap.size w w' := by
  have HB : Hid (Bytes w a len w.heap.size) := hb
  have HL : Hid (len ≤ maxLen) := hl
  clear hb hl
  by_cases hbig : (1048576 : Int) < (len : Int)
  · have HC : Hid (Calls Tryz.prog 7 #[.slice a len cap] w fun e w' => e = .returned (.bool true) ∧ w' = w) := (big_any a len cap w HL.out).mono fun e w' h => ⟨h.1.trans (retB (decide_eq_true hbig)), h.2⟩
    go_enter Tryz.func5, Tryz.ntmps5
    go_wp2_with fail
    refine HC.out.mono ?_
    rintro e w1 ⟨rfl, rfl⟩
    go_wp2
    go_ret
    exact ⟨rfl, Below.refl _ _⟩
  have HC : Hid (Calls Tryz.prog 7 #[.slice a len cap] w fun e w' => e = .returned (.bool false) ∧ w' = w) := (big_any a len cap w HL.out).mono fun e w' h => ⟨h.1.trans (retB (decide_eq_false hbig)), h.2⟩
  go_enter Tryz.func5, Tryz.ntmps5
  go_wp2_with fail
  refine HC.out.mono ?_
  rintro e wq ⟨rfl, hw⟩
  obtain rfl := hw.symm
  clear HC hw
  have B_z0 : Hid (Below w.heap.size w w) := Below.refl _ _
  go_upto_region 3 with fail
  go_wp2_with fail
  refine (drawStoreOk_any a len cap _ HL.out HB.out).mono ?_
  rintro e w1 ⟨⟨M1, c1, S1, rfl, h1⟩, hb⟩
  obtain ⟨ok1, hok1⟩ : ∃ b, storeB S1 = b := ⟨_, rfl⟩
  have E1 : Hid (storeB S1 = ok1) := hok1
  clear hok1
  have ND1 : Hid (DS w1 M1 S1) := h1
  have B_w1 : Hid (Below w.heap.size w w1) := hb
  clear B_z0
  have D1_w1 : Hid (DS w1 M1 S1) := ND1.out
  clear ND1
  clear hb
  go_upto_region 4 with fail
  go_wp2_with fail
  refine (drawPutAlarm_any a len cap _ HL.out (bytes_up HB.out B_w1.out)).mono ?_
  rintro e w2 ⟨⟨M2, c2, S2, ga, ca, x, rfl, h1, h2⟩, hb⟩
  obtain ⟨Q, hQ⟩ : ∃ Q, putS S2 x = Q := ⟨_, rfl⟩
  obtain ⟨nu, hnu⟩ : ∃ nu, freshS S2 x = nu := ⟨_, rfl⟩
  have EQ : Hid (putS S2 x = Q ∧ freshS S2 x = nu) := ⟨hQ, hnu⟩
  clear hQ hnu
  have ND2 : Hid (DS w2 M2 S2) := h1
  have NDX : Hid (DAl w2 ga x) := h2
  have B_w2 : Hid (Below w.heap.size w w2) := grow_on B_w1.out hb
  have D1_w2 : Hid (DS w2 M1 S1) := D1_w1.out.below hb
  clear B_w1 D1_w1
  have D2_w2 : Hid (DS w2 M2 S2) := ND2.out
  clear ND2
  have DX_w2 : Hid (DAl w2 ga x) := NDX.out
  clear NDX
  clear hb
  go_upto_region 5 with fail
  generalize hz : w2.alloc (.cells #[.slice (some ⟨ga, 0, none⟩) x.l.length ca, .int .i64 x.s, .int .i64 x.e, .string x.n] 29) = z2
  have hbz : Below w2.heap.size w2 z2 := by rw [← hz]; exact Go.Joins.below_alloc1 w2 _
  have bA_z2 : Hid (Blk z2 w2.heap.size #[.slice (some ⟨ga, 0, none⟩) x.l.length ca, .int .i64 x.s, .int .i64 x.e, .string x.n] 29) := by rw [← hz]; exact (Blk.new _ _ _)
  clear hz
  have B_z2 : Hid (Below w.heap.size w z2) := grow_on B_w2.out hbz
  have D1_z2 : Hid (DS z2 M1 S1) := D1_w2.out.below hbz
  have D2_z2 : Hid (DS z2 M2 S2) := D2_w2.out.below hbz
  have DX_z2 : Hid (DAl z2 ga x) := DX_w2.out.below hbz
  clear B_w2 D1_w2 D2_w2 DX_w2
  clear hbz
  have cbA0 : z2.cell? ⟨w2.heap.size, 0, none⟩ = some (.slice (some ⟨ga, 0, none⟩) x.l.length ca) := bA_z2.out.cell 0
  have cbA1 : z2.cell? ⟨w2.heap.size, 1, none⟩ = some (.int .i64 x.s) := bA_z2.out.cell 1
  have cbA2 : z2.cell? ⟨w2.heap.size, 2, none⟩ = some (.int .i64 x.e) := bA_z2.out.cell 2
  have cbA3 : z2.cell? ⟨w2.heap.size, 3, none⟩ = some (.string x.n) := bA_z2.out.cell 3
  go_wp2_with fail
  refine (implPutZ D2_z2.out DX_z2.out EQ.out.1 EQ.out.2).mono ?_
  rintro e w3 ⟨⟨Mx, cx, rfl, hr⟩, hb⟩
  clear cbA0 cbA1 cbA2 cbA3
  have NRX : Hid (SR w3 Mx Q) := hr
  have B_w3 : Hid (Below w.heap.size w w3) := grow_on B_z2.out hb
  have D1_w3 : Hid (DS w3 M1 S1) := D1_z2.out.below hb
  have D2_w3 : Hid (DS w3 M2 S2) := D2_z2.out.below hb
  have DX_w3 : Hid (DAl w3 ga x) := DX_z2.out.below hb
  have bA_w3 : Hid (Blk w3 w2.heap.size #[.slice (some ⟨ga, 0, none⟩) x.l.length ca, .int .i64 x.s, .int .i64 x.e, .string x.n] 29) := bA_z2.out.grow hb
  clear B_z2 D1_z2 D2_z2 DX_z2 bA_z2
  have RX_w3 : Hid (SR w3 Mx Q) := NRX.out
  clear NRX
  clear hb
  go_upto_region 6 with fail
  have cbA0 : w3.cell? ⟨w2.heap.size, 0, none⟩ = some (.slice (some ⟨ga, 0, none⟩) x.l.length ca) := bA_w3.out.cell 0
  have cbA1 : w3.cell? ⟨w2.heap.size, 1, none⟩ = some (.int .i64 x.s) := bA_w3.out.cell 1
  have cbA2 : w3.cell? ⟨w2.heap.size, 2, none⟩ = some (.int .i64 x.e) := bA_w3.out.cell 2
  have cbA3 : w3.cell? ⟨w2.heap.size, 3, none⟩ = some (.string x.n) := bA_w3.out.cell 3
  go_wp2_with fail
  refine (specPutZ D2_w3.out DX_w3.out EQ.out.1 EQ.out.2).mono ?_
  rintro e w4 ⟨⟨My, cy, rfl, hr⟩, hb⟩
  clear cbA0 cbA1 cbA2 cbA3
  have NRY : Hid (SR w4 My Q) := hr
  have B_w4 : Hid (Below w.heap.size w w4) := grow_on B_w3.out hb
  have D1_w4 : Hid (DS w4 M1 S1) := D1_w3.out.below hb
  have D2_w4 : Hid (DS w4 M2 S2) := D2_w3.out.below hb
  have DX_w4 : Hid (DAl w4 ga x) := DX_w3.out.below hb
  have bA_w4 : Hid (Blk w4 w2.heap.size #[.slice (some ⟨ga, 0, none⟩) x.l.length ca, .int .i64 x.s, .int .i64 x.e, .string x.n] 29) := bA_w3.out.grow hb
  have RX_w4 : Hid (SR w4 Mx Q) := RX_w3.out.below hb
  clear B_w3 D1_w3 D2_w3 DX_w3 bA_w3 RX_w3
  have RY_w4 : Hid (SR w4 My Q) := NRY.out
  clear NRY
  clear hb
  go_upto_region 7 with fail
  clear D2_w4
  clear DX_w4
  clear bA_w4
  go_wp2_with fail
  refine (drawFindAlarm_any a len cap _ HL.out (bytes_up HB.out B_w4.out)).mono ?_
  rintro e w5 ⟨⟨M3, c3, S3, gq, cq, q, rfl, h1, h2, hqf, hq8⟩, hb⟩
  obtain ⟨Yu, hYu⟩ : ∃ Yu, findSD S3 q = Yu := ⟨_, rfl⟩
  obtain ⟨ok3, hok3⟩ : ∃ b, (findS S3 q).isSome = b := ⟨_, rfl⟩
  have EU : Hid (findSD S3 q = Yu ∧ (findS S3 q).isSome = ok3 ∧ Fine Yu ∧ q.length ≤ 8 ∧ LabT.Fits q) := ⟨hYu, hok3, by rw [← hYu]; exact fine_sd h1.2 q, hq8, hqf⟩
  clear hYu hok3 hqf hq8
  have ND3 : Hid (DS w5 M3 S3) := h1
  have NRQ : Hid (Reads w5 (some ⟨gq, 0, none⟩) q) := h2
  have B_w5 : Hid (Below w.heap.size w w5) := grow_on B_w4.out hb
  have D1_w5 : Hid (DS w5 M1 S1) := D1_w4.out.below hb
  have RX_w5 : Hid (SR w5 Mx Q) := RX_w4.out.below hb
  have RY_w5 : Hid (SR w5 My Q) := RY_w4.out.below hb
  clear B_w4 D1_w4 RX_w4 RY_w4
  have D3_w5 : Hid (DS w5 M3 S3) := ND3.out
  clear ND3
  have RQ_w5 : Hid (Reads w5 (some ⟨gq, 0, none⟩) q) := NRQ.out
  clear NRQ
  clear hb
  go_upto_region 8 with fail
  go_wp2_with fail
  refine (implFindZ D3_w5.out RQ_w5.out EU.out.2.2.2.1 EU.out.2.2.2.2 EU.out.1 EU.out.2.1).mono ?_
  rintro e w6 ⟨⟨bu, cu, rfl, hr⟩, hb⟩
  have NRU : Hid (Reads w6 bu Yu.l) := hr
  have B_w6 : Hid (Below w.heap.size w w6) := grow_on B_w5.out hb
  have D1_w6 : Hid (DS w6 M1 S1) := D1_w5.out.below hb
  have RX_w6 : Hid (SR w6 Mx Q) := RX_w5.out.below hb
  have RY_w6 : Hid (SR w6 My Q) := RY_w5.out.below hb
  have D3_w6 : Hid (DS w6 M3 S3) := D3_w5.out.below hb
  have RQ_w6 : Hid (Reads w6 (some ⟨gq, 0, none⟩) q) := RQ_w5.out.below hb
  clear B_w5 D1_w5 RX_w5 RY_w5 D3_w5 RQ_w5
  have RU_w6 : Hid (Reads w6 bu Yu.l) := NRU.out
  clear NRU
  clear hb
  go_upto_region 9 with fail
  generalize hz : w6.alloc (.cells #[.slice bu Yu.l.length cu, .int .i64 Yu.s, .int .i64 Yu.e, .string Yu.n] 29) = z6
  have hbz : Below w6.heap.size w6 z6 := by rw [← hz]; exact Go.Joins.below_alloc1 w6 _
  have bU_z6 : Hid (Blk z6 w6.heap.size #[.slice bu Yu.l.length cu, .int .i64 Yu.s, .int .i64 Yu.e, .string Yu.n] 29) := by rw [← hz]; exact (Blk.new _ _ _)
  clear hz
  have B_z6 : Hid (Below w.heap.size w z6) := grow_on B_w6.out hbz
  have D1_z6 : Hid (DS z6 M1 S1) := D1_w6.out.below hbz
  have RX_z6 : Hid (SR z6 Mx Q) := RX_w6.out.below hbz
  have RY_z6 : Hid (SR z6 My Q) := RY_w6.out.below hbz
  have D3_z6 : Hid (DS z6 M3 S3) := D3_w6.out.below hbz
  have RQ_z6 : Hid (Reads z6 (some ⟨gq, 0, none⟩) q) := RQ_w6.out.below hbz
  have RU_z6 : Hid (Reads z6 bu Yu.l) := RU_w6.out.below hbz
  clear B_w6 D1_w6 RX_w6 RY_w6 D3_w6 RQ_w6 RU_w6
  clear hbz
  go_wp2_with fail
  refine (specFindZ D3_z6.out RQ_z6.out EU.out.2.2.2.1 EU.out.2.2.2.2 EU.out.1 EU.out.2.1).mono ?_
  rintro e w7 ⟨⟨bv, cv, rfl, hr⟩, hb⟩
  have NRV : Hid (Reads w7 bv Yu.l) := hr
  have B_w7 : Hid (Below w.heap.size w w7) := grow_on B_z6.out hb
  have D1_w7 : Hid (DS w7 M1 S1) := D1_z6.out.below hb
  have RX_w7 : Hid (SR w7 Mx Q) := RX_z6.out.below hb
  have RY_w7 : Hid (SR w7 My Q) := RY_z6.out.below hb
  have D3_w7 : Hid (DS w7 M3 S3) := D3_z6.out.below hb
  have RQ_w7 : Hid (Reads w7 (some ⟨gq, 0, none⟩) q) := RQ_z6.out.below hb
  have RU_w7 : Hid (Reads w7 bu Yu.l) := RU_z6.out.below hb
  have bU_w7 : Hid (Blk w7 w6.heap.size #[.slice bu Yu.l.length cu, .int .i64 Yu.s, .int .i64 Yu.e, .string Yu.n] 29) := bU_z6.out.grow hb
  clear B_z6 D1_z6 RX_z6 RY_z6 D3_z6 RQ_z6 RU_z6 bU_z6
  have RV_w7 : Hid (Reads w7 bv Yu.l) := NRV.out
  clear NRV
  clear hb
  go_upto_region 10 with fail
  generalize hz : w7.alloc (.cells #[.slice bv Yu.l.length cv, .int .i64 Yu.s, .int .i64 Yu.e, .string Yu.n] 29) = z7
  have hbz : Below w7.heap.size w7 z7 := by rw [← hz]; exact Go.Joins.below_alloc1 w7 _
  have bV_z7 : Hid (Blk z7 w7.heap.size #[.slice bv Yu.l.length cv, .int .i64 Yu.s, .int .i64 Yu.e, .string Yu.n] 29) := by rw [← hz]; exact (Blk.new _ _ _)
  clear hz
  have B_z7 : Hid (Below w.heap.size w z7) := grow_on B_w7.out hbz
  have D1_z7 : Hid (DS z7 M1 S1) := D1_w7.out.below hbz
  have RX_z7 : Hid (SR z7 Mx Q) := RX_w7.out.below hbz
  have RY_z7 : Hid (SR z7 My Q) := RY_w7.out.below hbz
  have D3_z7 : Hid (DS z7 M3 S3) := D3_w7.out.below hbz
  have RQ_z7 : Hid (Reads z7 (some ⟨gq, 0, none⟩) q) := RQ_w7.out.below hbz
  have RU_z7 : Hid (Reads z7 bu Yu.l) := RU_w7.out.below hbz
  have bU_z7 : Hid (Blk z7 w6.heap.size #[.slice bu Yu.l.length cu, .int .i64 Yu.s, .int .i64 Yu.e, .string Yu.n] 29) := bU_w7.out.grow hbz
  have RV_z7 : Hid (Reads z7 bv Yu.l) := RV_w7.out.below hbz
  clear B_w7 D1_w7 RX_w7 RY_w7 D3_w7 RQ_w7 RU_w7 bU_w7 RV_w7
  clear hbz
  clear D3_z7
  clear RQ_z7
  go_wp2_with fail
  refine (drawAllAlarms_any a len cap _ HL.out (bytes_up HB.out B_z7.out)).mono ?_
  rintro e w8 ⟨⟨M4, c4, S4, rfl, h1⟩, hb⟩
  obtain ⟨P, hP⟩ : ∃ P, sortP (allT S4) = P := ⟨_, rfl⟩
  have EP : Hid (sortP (allT S4) = P ∧ Fines P ∧ P.length ≤ 600 ∧ cntT S4 = P.length) := by
    have h2 := few_sorted h1.2 hP.symm
    refine ⟨hP, h2.1, h2.2, ?_⟩
    rw [Rgt.cnt_allT, ← hP]; exact (sort_perm _).length_eq
  clear hP
  have ND4 : Hid (DS w8 M4 S4) := h1
  have B_w8 : Hid (Below w.heap.size w w8) := grow_on B_z7.out hb
  have D1_w8 : Hid (DS w8 M1 S1) := D1_z7.out.below hb
  have RX_w8 : Hid (SR w8 Mx Q) := RX_z7.out.below hb
  have RY_w8 : Hid (SR w8 My Q) := RY_z7.out.below hb
  have RU_w8 : Hid (Reads w8 bu Yu.l) := RU_z7.out.below hb
  have bU_w8 : Hid (Blk w8 w6.heap.size #[.slice bu Yu.l.length cu, .int .i64 Yu.s, .int .i64 Yu.e, .string Yu.n] 29) := bU_z7.out.grow hb
  have RV_w8 : Hid (Reads w8 bv Yu.l) := RV_z7.out.below hb
  have bV_w8 : Hid (Blk w8 w7.heap.size #[.slice bv Yu.l.length cv, .int .i64 Yu.s, .int .i64 Yu.e, .string Yu.n] 29) := bV_z7.out.grow hb
  clear B_z7 D1_z7 RX_z7 RY_z7 RU_z7 bU_z7 RV_z7 bV_z7
  have D4_w8 : Hid (DS w8 M4 S4) := ND4.out
  clear ND4
  clear hb
  go_upto_region 11 with fail
  go_wp2_with fail
  refine (drawHomeOf_any a len cap _ HL.out (bytes_up HB.out B_w8.out)).mono ?_
  rintro e w9 ⟨⟨M5, c5, S5, gh, ch, h, rfl, h1, h2, hqf, hq8⟩, hb⟩
  obtain ⟨hn, hhn⟩ : ∃ n, homeN S5.length h = n := ⟨_, rfl⟩
  have EH : Hid (homeN S5.length h = hn ∧ h.length ≤ 8 ∧ LabT.Fits h) := ⟨hhn, hq8, hqf⟩
  clear hhn hq8 hqf
  have ND5 : Hid (DS w9 M5 S5) := h1
  have NRH : Hid (Reads w9 (some ⟨gh, 0, none⟩) h) := h2
  have B_w9 : Hid (Below w.heap.size w w9) := grow_on B_w8.out hb
  have D1_w9 : Hid (DS w9 M1 S1) := D1_w8.out.below hb
  have RX_w9 : Hid (SR w9 Mx Q) := RX_w8.out.below hb
  have RY_w9 : Hid (SR w9 My Q) := RY_w8.out.below hb
  have RU_w9 : Hid (Reads w9 bu Yu.l) := RU_w8.out.below hb
  have bU_w9 : Hid (Blk w9 w6.heap.size #[.slice bu Yu.l.length cu, .int .i64 Yu.s, .int .i64 Yu.e, .string Yu.n] 29) := bU_w8.out.grow hb
  have RV_w9 : Hid (Reads w9 bv Yu.l) := RV_w8.out.below hb
  have bV_w9 : Hid (Blk w9 w7.heap.size #[.slice bv Yu.l.length cv, .int .i64 Yu.s, .int .i64 Yu.e, .string Yu.n] 29) := bV_w8.out.grow hb
  have D4_w9 : Hid (DS w9 M4 S4) := D4_w8.out.below hb
  clear B_w8 D1_w8 RX_w8 RY_w8 RU_w8 bU_w8 RV_w8 bV_w8 D4_w8
  have D5_w9 : Hid (DS w9 M5 S5) := ND5.out
  clear ND5
  have RH_w9 : Hid (Reads w9 (some ⟨gh, 0, none⟩) h) := NRH.out
  clear NRH
  clear hb
  go_upto_region 12 with fail
  go_wp2_with fail
  refine (drawStoreNew_any a len cap _ HL.out (bytes_up HB.out B_w9.out)).mono ?_
  rintro e w10 ⟨⟨n, rfl, hn0, hn1⟩, hb⟩
  obtain ⟨N, hN⟩ : ∃ N, newS n = N := ⟨_, rfl⟩
  have EN : Hid ((-1 ≤ n ∧ n ≤ 4) ∧ newS n = N ∧ storeB N = true ∧ cntT N = 0) := ⟨⟨hn0, hn1⟩, hN, by rw [← hN]; exact (new_facts n).1, by rw [← hN]; exact (new_facts n).2⟩
  clear hN hn0 hn1
  have B_w10 : Hid (Below w.heap.size w w10) := grow_on B_w9.out hb
  have D1_w10 : Hid (DS w10 M1 S1) := D1_w9.out.below hb
  have RX_w10 : Hid (SR w10 Mx Q) := RX_w9.out.below hb
  have RY_w10 : Hid (SR w10 My Q) := RY_w9.out.below hb
  have RU_w10 : Hid (Reads w10 bu Yu.l) := RU_w9.out.below hb
  have bU_w10 : Hid (Blk w10 w6.heap.size #[.slice bu Yu.l.length cu, .int .i64 Yu.s, .int .i64 Yu.e, .string Yu.n] 29) := bU_w9.out.grow hb
  have RV_w10 : Hid (Reads w10 bv Yu.l) := RV_w9.out.below hb
  have bV_w10 : Hid (Blk w10 w7.heap.size #[.slice bv Yu.l.length cv, .int .i64 Yu.s, .int .i64 Yu.e, .string Yu.n] 29) := bV_w9.out.grow hb
  have D4_w10 : Hid (DS w10 M4 S4) := D4_w9.out.below hb
  have D5_w10 : Hid (DS w10 M5 S5) := D5_w9.out.below hb
  have RH_w10 : Hid (Reads w10 (some ⟨gh, 0, none⟩) h) := RH_w9.out.below hb
  clear B_w9 D1_w9 RX_w9 RY_w9 RU_w9 bU_w9 RV_w9 bV_w9 D4_w9 D5_w9 RH_w9
  clear hb
  go_upto_region 13 with fail
  go_wp2_with fail
  refine (implNewZ EN.out.1 EN.out.2.1).mono ?_
  rintro e w11 ⟨⟨Mn, cn, rfl, hr⟩, hb⟩
  have NRN : Hid (SR w11 Mn N) := hr
  have B_w11 : Hid (Below w.heap.size w w11) := grow_on B_w10.out hb
  have D1_w11 : Hid (DS w11 M1 S1) := D1_w10.out.below hb
  have RX_w11 : Hid (SR w11 Mx Q) := RX_w10.out.below hb
  have RY_w11 : Hid (SR w11 My Q) := RY_w10.out.below hb
  have RU_w11 : Hid (Reads w11 bu Yu.l) := RU_w10.out.below hb
  have bU_w11 : Hid (Blk w11 w6.heap.size #[.slice bu Yu.l.length cu, .int .i64 Yu.s, .int .i64 Yu.e, .string Yu.n] 29) := bU_w10.out.grow hb
  have RV_w11 : Hid (Reads w11 bv Yu.l) := RV_w10.out.below hb
  have bV_w11 : Hid (Blk w11 w7.heap.size #[.slice bv Yu.l.length cv, .int .i64 Yu.s, .int .i64 Yu.e, .string Yu.n] 29) := bV_w10.out.grow hb
  have D4_w11 : Hid (DS w11 M4 S4) := D4_w10.out.below hb
  have D5_w11 : Hid (DS w11 M5 S5) := D5_w10.out.below hb
  have RH_w11 : Hid (Reads w11 (some ⟨gh, 0, none⟩) h) := RH_w10.out.below hb
  clear B_w10 D1_w10 RX_w10 RY_w10 RU_w10 bU_w10 RV_w10 bV_w10 D4_w10 D5_w10 RH_w10
  have RN_w11 : Hid (SR w11 Mn N) := NRN.out
  clear NRN
  clear hb
  go_upto_region 14 with fail
  have A1 : Hid (∀ (u : World), Below w11.heap.size w11 u → Calls Tryz.prog 33 #[.slice (some ⟨M1, 0, none⟩) S1.length c1] u fun e w' => e = .returned (.bool ok1) ∧ Below u.heap.size u w') := fun u hu => implOkZ (sr_ds (D1_w11.out.below hu)) E1.out
  have A2 : Hid (∀ (u : World), Below w11.heap.size w11 u → Calls Tryz.prog 45 #[.slice (some ⟨M1, 0, none⟩) S1.length c1] u fun e w' => e = .returned (.bool ok1) ∧ Below u.heap.size u w') := fun u hu => specOkZ (sr_ds (D1_w11.out.below hu)) E1.out
  have A3 : Hid (∀ (u : World), Below w11.heap.size w11 u → Calls Tryz.prog 46 #[.slice (some ⟨Mx, 0, none⟩) Q.length cx, .slice (some ⟨My, 0, none⟩) Q.length cy] u fun e w' => e = .returned (.bool true) ∧ Below u.heap.size u w') := fun u hu => same_store (RX_w11.out.below hu) (RY_w11.out.below hu)
  have A4 : Hid (∀ (u : World), Below w11.heap.size w11 u → Calls Tryz.prog 20 #[.agg #[.slice bu Yu.l.length cu, .int .i64 Yu.s, .int .i64 Yu.e, .string Yu.n], .agg #[.slice bv Yu.l.length cv, .int .i64 Yu.s, .int .i64 Yu.e, .string Yu.n]] u fun e w' => e = .returned (.bool true) ∧ Below u.heap.size u w') := fun u hu => (implSameA_any _ _ _ _ Yu.l Yu.l _ _ _ _ _ _ u (RU_w11.out.below hu) (RV_w11.out.below hu) (fine_max EU.out.2.2.1) (fine_max EU.out.2.2.1)).mono fun e w' h => ⟨h.1.trans (retB (Alm.same_self _ _ _ _)), h.2⟩
  have A5 : Hid (∀ (u : World), Below w11.heap.size w11 u → Calls Tryz.prog 32 #[.slice (some ⟨M4, 0, none⟩) S4.length c4] u fun e w' => (∃ M c, e = .returned (.slice (some ⟨M, 0, none⟩) P.length c) ∧ RdN w' (some ⟨M, 0, none⟩) P) ∧ Below u.heap.size u w') := fun u hu => implAllZ (D4_w11.out.below hu) EP.out.1
  have A6 : Hid (∀ (u : World), Below w11.heap.size w11 u → Calls Tryz.prog 47 #[.slice (some ⟨M4, 0, none⟩) S4.length c4] u fun e w' => (∃ M c, e = .returned (.slice (some ⟨M, 0, none⟩) P.length c) ∧ RdN w' (some ⟨M, 0, none⟩) P) ∧ Below u.heap.size u w') := fun u hu => specAllZ (D4_w11.out.below hu) EP.out.1
  have A8 : Hid (∀ (u : World), Below w11.heap.size w11 u → Calls Tryz.prog 35 #[.slice (some ⟨M4, 0, none⟩) S4.length c4] u fun e w' => e = .returned (.int .i64 P.length) ∧ Below u.heap.size u w') := fun u hu => countZ (sr_ds (D4_w11.out.below hu)) EP.out.2.2.2
  have A9 : Hid (∀ (u : World), Below w11.heap.size w11 u → Calls Tryz.prog 48 #[.slice (some ⟨M5, 0, none⟩) S5.length c5, .slice (some ⟨gh, 0, none⟩) h.length ch] u fun e w' => e = .returned (.int .i64 hn) ∧ Below u.heap.size u w') := fun u hu => implHomeZ (D5_w11.out.below hu) (RH_w11.out.below hu) EH.out.2.1 EH.out.2.2 EH.out.1
  have A10 : Hid (∀ (u : World), Below w11.heap.size w11 u → Calls Tryz.prog 49 #[.slice (some ⟨M5, 0, none⟩) S5.length c5, .slice (some ⟨gh, 0, none⟩) h.length ch] u fun e w' => e = .returned (.int .i64 hn) ∧ Below u.heap.size u w') := fun u hu => specHomeZ (D5_w11.out.below hu) (RH_w11.out.below hu) EH.out.2.1 EH.out.2.2 EH.out.1
  have A11 : Hid (∀ (u : World), Below w11.heap.size w11 u → Calls Tryz.prog 50 #[.int .i64 n] u fun e w' => (∃ M c, e = .returned (.slice (some ⟨M, 0, none⟩) N.length c) ∧ SR w' M N) ∧ Below u.heap.size u w') := fun u hu => specNewZ EN.out.1 EN.out.2.1
  have A13 : Hid (∀ (u : World), Below w11.heap.size w11 u → Calls Tryz.prog 33 #[.slice (some ⟨Mn, 0, none⟩) N.length cn] u fun e w' => e = .returned (.bool true) ∧ Below u.heap.size u w') := fun u hu => implOkZ (RN_w11.out.below hu) EN.out.2.2.1
  have A14 : Hid (∀ (u : World), Below w11.heap.size w11 u → Calls Tryz.prog 35 #[.slice (some ⟨Mn, 0, none⟩) N.length cn] u fun e w' => e = .returned (.int .i64 0) ∧ Below u.heap.size u w') := fun u hu => countZ (RN_w11.out.below hu) EN.out.2.2.2
  have A7 : Hid (∀ (u : World) (M1 c1 M2 c2 : Nat), RdN u (some ⟨M1, 0, none⟩) P → RdN u (some ⟨M2, 0, none⟩) P → Calls Tryz.prog 21 #[.slice (some ⟨M1, 0, none⟩) P.length c1, .slice (some ⟨M2, 0, none⟩) P.length c2] u fun r w' => r = .returned (.bool true) ∧ Below u.heap.size u w') := fun u M1 c1 M2 c2 h1 h2 => (sameList_any _ _ c1 c2 P P u h1.rd h2.rd (by have := EP.out.2.2.1; omega) (by have := EP.out.2.2.1; omega) (finesP EP.out.2.1) (finesP EP.out.2.1)).mono fun e w' h => ⟨h.1.trans (retB (same_refl _)), h.2⟩
  have A12 : Hid (∀ (u : World) (M' c' : Nat), Below w11.heap.size w11 u → SR u M' N → Calls Tryz.prog 46 #[.slice (some ⟨Mn, 0, none⟩) N.length cn, .slice (some ⟨M', 0, none⟩) N.length c'] u fun r w' => r = .returned (.bool true) ∧ Below u.heap.size u w') := fun u M' c' hu h => same_store (RN_w11.out.below hu) h
  have t1 : (ok1 == ok1) = true := by simp
  have t2 : (nu == nu) = true := by simp
  have t3 : (ok3 == ok3) = true := by simp
  have t4 : ((P.length : Int) == (P.length : Int)) = true := by simp
  have t5 : ((hn : Int) == (hn : Int)) = true := by simp
  have K0 : Hid (Below w11.heap.size w11 w11) := Below.refl _ _
  go_wp2_with fail
  refine (A1.out _ K0.out).mono ?_
  rintro r wc1 ⟨rfl, hy⟩
  have K1 : Hid (Below w11.heap.size w11 wc1) := grow_on K0.out hy
  clear hy K0
  go_wp2_with fail
  refine (A2.out _ K1.out).mono ?_
  rintro r wc3 ⟨rfl, hy⟩
  have K3 : Hid (Below w11.heap.size w11 wc3) := grow_on K1.out hy
  clear hy K1
  go_wp2_with fail
  refine (A3.out _ K3.out).mono ?_
  rintro r wc8 ⟨rfl, hy⟩
  have K8 : Hid (Below w11.heap.size w11 wc8) := grow_on K3.out hy
  clear hy K3
  have cbU0 : wc8.cell? ⟨w6.heap.size, 0, none⟩ = some (.slice bu Yu.l.length cu) := (bU_w11.out.grow K8.out).cell 0
  have cbU1 : wc8.cell? ⟨w6.heap.size, 1, none⟩ = some (.int .i64 Yu.s) := (bU_w11.out.grow K8.out).cell 1
  have cbU2 : wc8.cell? ⟨w6.heap.size, 2, none⟩ = some (.int .i64 Yu.e) := (bU_w11.out.grow K8.out).cell 2
  have cbU3 : wc8.cell? ⟨w6.heap.size, 3, none⟩ = some (.string Yu.n) := (bU_w11.out.grow K8.out).cell 3
  have cbV0 : wc8.cell? ⟨w7.heap.size, 0, none⟩ = some (.slice bv Yu.l.length cv) := (bV_w11.out.grow K8.out).cell 0
  have cbV1 : wc8.cell? ⟨w7.heap.size, 1, none⟩ = some (.int .i64 Yu.s) := (bV_w11.out.grow K8.out).cell 1
  have cbV2 : wc8.cell? ⟨w7.heap.size, 2, none⟩ = some (.int .i64 Yu.e) := (bV_w11.out.grow K8.out).cell 2
  have cbV3 : wc8.cell? ⟨w7.heap.size, 3, none⟩ = some (.string Yu.n) := (bV_w11.out.grow K8.out).cell 3
  go_wp2_with fail
  refine (A4.out _ K8.out).mono ?_
  rintro r wc23 ⟨rfl, hy⟩
  clear cbU0 cbU1 cbU2 cbU3 cbV0 cbV1 cbV2 cbV3
  have K23 : Hid (Below w11.heap.size w11 wc23) := grow_on K8.out hy
  clear hy K8
  go_wp2_with fail
  refine (A5.out _ K23.out).mono ?_
  rintro r wc27 ⟨⟨M27, c27, rfl, hr27⟩, hy⟩
  have HK27 : Hid (RdN wc27 (some ⟨M27, 0, none⟩) P) := hr27
  clear hr27
  have K27 : Hid (Below w11.heap.size w11 wc27) := grow_on K23.out hy
  clear hy K23
  go_wp2_with fail
  refine (A6.out _ K27.out).mono ?_
  rintro r wc29 ⟨⟨M29, c29, rfl, hr29⟩, hy⟩
  have HK29 : Hid (RdN wc29 (some ⟨M29, 0, none⟩) P ∧ RdN wc29 (some ⟨M27, 0, none⟩) P) := ⟨hr29, HK27.out.below hy⟩
  clear hr29
  have K29 : Hid (Below w11.heap.size w11 wc29) := grow_on K27.out hy
  clear hy K27
  go_wp2_with fail
  refine (A7.out _ _ _ _ _ HK29.out.2 HK29.out.1).mono ?_
  rintro r wc30 ⟨rfl, hy⟩
  have K30 : Hid (Below w11.heap.size w11 wc30) := grow_on K29.out hy
  clear hy K29
  go_wp2_with fail
  refine (A8.out _ K30.out).mono ?_
  rintro r wc34 ⟨rfl, hy⟩
  have K34 : Hid (Below w11.heap.size w11 wc34) := grow_on K30.out hy
  clear hy K30
  go_wp2_with fail
  refine (A5.out _ K34.out).mono ?_
  rintro r wc36 ⟨⟨M36, c36, rfl, hr36⟩, hy⟩
  have HK36 : Hid (RdN wc36 (some ⟨M36, 0, none⟩) P) := hr36
  clear hr36
  have K36 : Hid (Below w11.heap.size w11 wc36) := grow_on K34.out hy
  clear hy K34
  go_wp2_with fail
  refine (A9.out _ K36.out).mono ?_
  rintro r wc43 ⟨rfl, hy⟩
  have K43 : Hid (Below w11.heap.size w11 wc43) := grow_on K36.out hy
  clear hy K36
  go_wp2_with fail
  refine (A10.out _ K43.out).mono ?_
  rintro r wc46 ⟨rfl, hy⟩
  have K46 : Hid (Below w11.heap.size w11 wc46) := grow_on K43.out hy
  clear hy K43
  go_wp2_with fail
  refine (A11.out _ K46.out).mono ?_
  rintro r wc52 ⟨⟨M52, c52, rfl, hr52⟩, hy⟩
  have HK52 : Hid (SR wc52 M52 N) := hr52
  clear hr52
  have K52 : Hid (Below w11.heap.size w11 wc52) := grow_on K46.out hy
  clear hy K46
  go_wp2_with fail
  refine (A12.out _ _ _ K52.out HK52.out).mono ?_
  rintro r wc53 ⟨rfl, hy⟩
  have K53 : Hid (Below w11.heap.size w11 wc53) := grow_on K52.out hy
  clear hy K52
  go_wp2_with fail
  refine (A13.out _ K53.out).mono ?_
  rintro r wc57 ⟨rfl, hy⟩
  have K57 : Hid (Below w11.heap.size w11 wc57) := grow_on K53.out hy
  clear hy K53
  go_wp2_with fail
  refine (A14.out _ K57.out).mono ?_
  rintro r wc61 ⟨rfl, hy⟩
  have K61 : Hid (Below w11.heap.size w11 wc61) := grow_on K57.out hy
  clear hy K57
  have HBZ : Hid (Below w.heap.size w wc61) := grow_on B_w11.out K61.out
  go_wp2
  go_ret
  exact ⟨rfl, HBZ.out⟩

theorem walk (a : Option Addr) (len cap : Nat) (zs : List Int) (w : World) (h : IsRow .u8 w a len cap zs) :
    Calls Tryz.prog 5 #[.slice a len cap] w fun e w' => e = .returned (.bool true) ∧ Below w.heap.size w w' := by
  obtain ⟨hl, hb⟩ := bytes_of h
  exact core a len cap w hl hb
theorem own : ownKnob Tryz.prog.godebug = none := by kernel_rfl
theorem laidOut : laidOutB Tryz.prog = true := by kernel_rfl
set_option maxRecDepth 100000 in
theorem lifted (os : Os) (started : os.Started) (H : Type) (enc : TypeId × Value → H) :
    ReturnsInHanded {} Tryz.checked os 5 .any (Rows.fnStoresBentSpec.pre6 enc Tryz.prog Tryz.f5 Rows.fnStoresBentRow.domain false) (Rows.fnStoresBentSpec.post enc Tryz.prog Tryz.f5 false true false false) := by
  refine returnsInHanded_of_change (C := Tryz.checked) own started (by kernel_rfl) Tryz.func5
    (ChangeSpec.witness6 (enc := enc) (C := Tryz.checked) false ⟨#[], #[.slice none 0 0], []⟩ 8 (by kernel_rfl) (by kernel_rfl) (by kernel_rfl) (by kernel_rfl)) ?_
  intro W base args ds gs before hval0 hW hcnd _
  have hval : ∀ (j : Nat) t v, Tryz.f5.params[j]? = some t → args[j]? = some v → Value.okWide Tryz.prog W .any base t v := hval0
  have hW' := hW
  obtain ⟨p, q, hA0, hV, rfl, hfz, hnd⟩ := hW
  have hA : DataW.TrodAll enc Tryz.prog W 0 (fun _ => true) true Tryz.f5.params.toList args.toList ds p := hA0
  rw [Tryz.params5] at hA hval
  obtain ⟨v0, vs0, d0, ds0, p0, q0, hargs, rfl, rfl, h0, r0⟩ := trodAll_cons hA
  obtain ⟨rfl, rfl, rfl⟩ := trodAll_nil r0
  obtain rfl : args = #[v0] := by cases args; simp_all
  obtain ⟨rfl, rfl⟩ := trodVars_none hV
  obtain ⟨a0, len0, cap0, rfl⟩ := okWide_slice Tryz.underlying22 (hval 0 22 v0 rfl rfl)
  have k0 := h0
  have lt0 : ∀ x ∈ p0, x.block < W.heap.size := by obtain ⟨m, hm⟩ := k0; exact DataW.trod_lt m _ _ _ hm
  obtain ⟨z0, w0⟩ : ∃ zs, IsRow .u8 W a0 len0 cap0 zs := by
    obtain ⟨fuel, hf⟩ := h0
    rcases open_ints Tryz.underlying22 Tryz.underlying5 (by kernel_rfl) hf with ⟨hcs, _⟩ | ⟨x, l, c, zs, hcs, _, hl, hm, hz, _, hcell, hwz⟩
    · simp [Value.cells] at hcs
      obtain ⟨rfl, rfl, rfl⟩ := hcs
      exact ⟨[], .inl ⟨rfl, rfl, rfl, rfl⟩⟩
    · simp [Value.cells] at hcs
      obtain ⟨rfl, rfl, rfl⟩ := hcs
      exact ⟨zs, .inr ⟨_, rfl, hl, hm, by simpa using hz, hcell, hwz⟩⟩
  clear hA0 hval0
  refine (walk a0 len0 cap0 z0 W w0).mono fun e W' ⟨he, bel⟩ => ?_
  subst he
  exact ⟨_, rfl, _, _, _, [], _, [], hW', trodAll_mk1 (shut_bool Tryz.underlying4 _), (trodAll_cons_mk (Below.trod laidOut (by kernel_rfl) (of_decide_eq_true (by kernel_rfl)) k0 bel lt0) trodAll_mk0), rfl, bel.frame _, fun h => by cases h⟩

theorem over : Rows.fnStoresBentRow.holds Tryz.pinned (OpenSpec.ofChange Rows.fnStoresBentSpec) :=
  OpenClaim.holds_of_wide 5 Tryz.f5 rfl rfl rfl rfl rfl rfl rfl ⟨rfl, rfl, rfl, rfl, rfl⟩ rfl rfl rfl rfl rfl (by kernel_rfl) Tryz.func5 (by kernel_rfl)
    (of_decide_eq_true (by kernel_rfl)) (by unfold Func.isWrapper; first | (rw [if_pos (by decide +kernel)]; kernel_rfl) | (rw [if_neg (by decide +kernel)]; exact ⟨rfl, rfl⟩))
    (fun os started H enc _ => lifted os started H enc)

end Go.Proofs.YtooninmicfcfoaaGreat.FnStoresBent
namespace Go.Proofs.YtooninmicfcfoaaGreat
theorem fnStoresBent_holds : Rows.FnStoresBentSaid := FnStoresBent.over
#print axioms fnStoresBent_holds
end Go.Proofs.YtooninmicfcfoaaGreat
