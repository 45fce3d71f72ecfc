/-
  PROVED: whatever the code, the law laws.FnParts returns true and leaves the code as it was: of the drawn parts and alarms what was put in a part is found there, by its labels, merged with what was there, what is over is swept away, and nothing else, and each change is counted; each function of chapter 7 answers as the specification has it. No condition.
-/
import Derived.Test.YtooninmicfcfoaaGreatRows
import Derived.WalkKit
import Derived.ProofKit
import Derived.OpenShut
import Derived.ShutString
import Derived.ChangeOld
import Derived.Below
import Derived.WalkLawsBesides
import Derived.WalkSpells
import Derived.Test.YtooninmicfcfoaaGreatQPutF
import Derived.Deep.RegionHeld3
set_option linter.unusedVariables false
namespace Go.Proofs.YtooninmicfcfoaaGreat.FnParts
open Go.ChangeShapes Go.WideShapes Go.ChangeAt Go.RowKit
open Go.ChangeMaps (open_string shut_string)

open Labs LabS Draw LawB Over Blk Alms AlmS Rws ChnI ChnC ChnP ChnS DrawC DrawE Chs Prt PrtF PrtC DrawG DrawI PutF
open AlmM (implMerge_any startB)
open PrtO (partOkB implPartOk_any specPartOk_any)
open PrtS (samePB sameP_y sameYs_refl implSameP_any specSameP_any)
open PrtA (allC allC_sum allC_mem)
open PrtW (sweepTo gonesTo verS sweep_sum)

theorem finesP {P : List PAl} (h : Fines P) : LenP P := len_m h.lens
theorem fine_max {x : PAl} (h : Fine x) : x.l.length ≤ maxLen := by have := h.2; unfold maxLen; omega
theorem same_part (hd vr : Int) (C : List PCh) : samePB hd vr C hd vr C = true := sameP_y.trans (sameYs_refl C)
set_option maxRecDepth 100000 in
set_option maxHeartbeats 40000000 in
theorem core (a : Option Addr) (len cap : Nat) (w : World) (hl : len ≤ maxLen) (hb : Bytes w a len w.heap.size) :
    Calls Tryz.prog 3 #[.slice a len cap] w fun e w' => e = .returned (.bool true) ∧ Below w.heap.size w w' := by
  have HB : Hid (Bytes w a len w.heap.size) := hb
  have HL : Hid (len ≤ maxLen) := hl
  clear hb hl
  by_cases hbig : (1048576 : Int) < (len : Int)
  · have HC : Hid (Calls Tryz.prog 7 #[.slice a len cap] w fun e w' => e = .returned (.bool true) ∧ w' = w) := (big_any a len cap w HL.out).mono fun e w' h => ⟨h.1.trans (retB (decide_eq_true hbig)), h.2⟩
    go_enter Tryz.func3, Tryz.ntmps3
    go_wp2_with fail
    refine HC.out.mono ?_
    rintro e w1 ⟨rfl, rfl⟩
    go_wp2
    go_ret
    exact ⟨rfl, Below.refl _ _⟩
  have HC : Hid (Calls Tryz.prog 7 #[.slice a len cap] w fun e w' => e = .returned (.bool false) ∧ w' = w) := (big_any a len cap w HL.out).mono fun e w' h => ⟨h.1.trans (retB (decide_eq_false hbig)), h.2⟩
  go_enter Tryz.func3, Tryz.ntmps3
  go_wp2_with fail
  refine HC.out.mono ?_
  rintro e wq ⟨rfl, hw⟩
  obtain rfl := hw.symm
  clear HC hw
  have B_z0 : Hid (Below w.heap.size w w) := Below.refl _ _
  go_upto_region 3 with fail
  go_wp2_with fail
  refine (drawPutIn_any a len cap _ HL.out HB.out).mono ?_
  rintro e w1 ⟨⟨hp, vp, aP, cp, P, ga, ca, x, rfl, hP, hn, hx⟩, hb⟩
  have FP : Hid (FinC 7 P ∧ P.length ≤ 8 ∧ Fine x ∧ Nums hp vp) := ⟨hP.2.1, hP.2.2, hx.2, hn⟩
  obtain ⟨Q, hQ⟩ : ∃ Q, putC P x = Q := ⟨_, rfl⟩
  obtain ⟨nu, hnu⟩ : ∃ nu, newC P x = nu := ⟨_, rfl⟩
  obtain ⟨vu, hvu⟩ : ∃ vu, IntKind.i64.wrap (vp + 1) = vu := ⟨_, rfl⟩
  have EQ : Hid (putC P x = Q ∧ newC P x = nu ∧ IntKind.i64.wrap (vp + 1) = vu) := ⟨hQ, hnu, hvu⟩
  have FQ : Hid (FinC 8 Q ∧ Q.length ≤ 9) := by rw [← hQ]; exact fin_put ⟨hP.2.1, hP.2.2⟩ hx.2
  clear hQ hnu hvu hn
  have NDP : Hid (Pt w1 aP P) := pt_of hP
  have NDX : Hid (DAl w1 ga x) := hx
  have B_w1 : Hid (Below w.heap.size w w1) := hb
  clear B_z0
  have DP_w1 : Hid (Pt w1 aP P) := NDP.out
  clear NDP
  have DX_w1 : Hid (DAl w1 ga x) := NDX.out
  clear NDX
  clear hb
  go_upto_region 4 with fail
  generalize hz : (w1.alloc (.cells #[.int .i64 hp, .int .i64 vp, .slice aP P.length cp] 26)).alloc (.cells #[.slice (some ⟨ga, 0, none⟩) x.l.length ca, .int .i64 x.s, .int .i64 x.e, .string x.n] 29) = z1
  have hbz : Below w1.heap.size w1 z1 := by rw [← hz]; exact Go.Joins.below_alloc2 w1 _ _
  have bP_z1 : Hid (Blk z1 w1.heap.size #[.int .i64 hp, .int .i64 vp, .slice aP P.length cp] 26) := by rw [← hz]; exact (Blk.new _ _ _).alloc _
  have bA_z1 : Hid (Blk z1 (w1.heap.size + 1) #[.slice (some ⟨ga, 0, none⟩) x.l.length ca, .int .i64 x.s, .int .i64 x.e, .string x.n] 29) := by rw [← hz]; exact Blk.new_at (by simp)
  clear hz
  have B_z1 : Hid (Below w.heap.size w z1) := grow_on B_w1.out hbz
  have DP_z1 : Hid (Pt z1 aP P) := DP_w1.out.below hbz
  have DX_z1 : Hid (DAl z1 ga x) := DX_w1.out.below hbz
  clear B_w1 DP_w1 DX_w1
  clear hbz
  have cbP0 : z1.cell? ⟨w1.heap.size, 0, none⟩ = some (.int .i64 hp) := bP_z1.out.cell 0
  have cbP1 : z1.cell? ⟨w1.heap.size, 1, none⟩ = some (.int .i64 vp) := bP_z1.out.cell 1
  have cbP2 : z1.cell? ⟨w1.heap.size, 2, none⟩ = some (.slice aP P.length cp) := bP_z1.out.cell 2
  have cbA0 : z1.cell? ⟨(w1.heap.size + 1), 0, none⟩ = some (.slice (some ⟨ga, 0, none⟩) x.l.length ca) := bA_z1.out.cell 0
  have cbA1 : z1.cell? ⟨(w1.heap.size + 1), 1, none⟩ = some (.int .i64 x.s) := bA_z1.out.cell 1
  have cbA2 : z1.cell? ⟨(w1.heap.size + 1), 2, none⟩ = some (.int .i64 x.e) := bA_z1.out.cell 2
  have cbA3 : z1.cell? ⟨(w1.heap.size + 1), 3, none⟩ = some (.string x.n) := bA_z1.out.cell 3
  go_wp2_with fail
  refine (implPutR hp vp aP cp P ga ca x _ DP_z1.out DX_z1.out EQ.out.1 EQ.out.2.1 EQ.out.2.2).mono ?_
  rintro e w2 ⟨⟨Mx, cx, rfl, hr⟩, hb⟩
  clear cbP0 cbP1 cbP2 cbA0 cbA1 cbA2 cbA3
  have NRX : Hid (Pt w2 (some ⟨Mx, 0, none⟩) Q) := ⟨hr, FQ.out⟩
  have B_w2 : Hid (Below w.heap.size w w2) := grow_on B_z1.out hb
  have DP_w2 : Hid (Pt w2 aP P) := DP_z1.out.below hb
  have DX_w2 : Hid (DAl w2 ga x) := DX_z1.out.below hb
  have bP_w2 : Hid (Blk w2 w1.heap.size #[.int .i64 hp, .int .i64 vp, .slice aP P.length cp] 26) := bP_z1.out.grow hb
  have bA_w2 : Hid (Blk w2 (w1.heap.size + 1) #[.slice (some ⟨ga, 0, none⟩) x.l.length ca, .int .i64 x.s, .int .i64 x.e, .string x.n] 29) := bA_z1.out.grow hb
  clear B_z1 DP_z1 DX_z1 bP_z1 bA_z1
  have RX_w2 : Hid (Pt w2 (some ⟨Mx, 0, none⟩) Q) := NRX.out
  clear NRX
  clear hb
  go_upto_region 5 with fail
  generalize hz : w2.alloc (.cells #[.int .i64 hp, .int .i64 vu, .slice (some ⟨Mx, 0, none⟩) Q.length cx] 26) = z2
  have hbz : Below w2.heap.size w2 z2 := by rw [← hz]; exact Go.Joins.below_alloc1 w2 _
  have bX_z2 : Hid (Blk z2 w2.heap.size #[.int .i64 hp, .int .i64 vu, .slice (some ⟨Mx, 0, none⟩) Q.length cx] 26) := by rw [← hz]; exact (Blk.new _ _ _)
  clear hz
  have B_z2 : Hid (Below w.heap.size w z2) := grow_on B_w2.out hbz
  have DP_z2 : Hid (Pt z2 aP P) := DP_w2.out.below hbz
  have DX_z2 : Hid (DAl z2 ga x) := DX_w2.out.below hbz
  have bP_z2 : Hid (Blk z2 w1.heap.size #[.int .i64 hp, .int .i64 vp, .slice aP P.length cp] 26) := bP_w2.out.grow hbz
  have bA_z2 : Hid (Blk z2 (w1.heap.size + 1) #[.slice (some ⟨ga, 0, none⟩) x.l.length ca, .int .i64 x.s, .int .i64 x.e, .string x.n] 29) := bA_w2.out.grow hbz
  have RX_z2 : Hid (Pt z2 (some ⟨Mx, 0, none⟩) Q) := RX_w2.out.below hbz
  clear B_w2 DP_w2 DX_w2 bP_w2 bA_w2 RX_w2
  clear hbz
  have cbP0 : z2.cell? ⟨w1.heap.size, 0, none⟩ = some (.int .i64 hp) := bP_z2.out.cell 0
  have cbP1 : z2.cell? ⟨w1.heap.size, 1, none⟩ = some (.int .i64 vp) := bP_z2.out.cell 1
  have cbP2 : z2.cell? ⟨w1.heap.size, 2, none⟩ = some (.slice aP P.length cp) := bP_z2.out.cell 2
  have cbA0 : z2.cell? ⟨(w1.heap.size + 1), 0, none⟩ = some (.slice (some ⟨ga, 0, none⟩) x.l.length ca) := bA_z2.out.cell 0
  have cbA1 : z2.cell? ⟨(w1.heap.size + 1), 1, none⟩ = some (.int .i64 x.s) := bA_z2.out.cell 1
  have cbA2 : z2.cell? ⟨(w1.heap.size + 1), 2, none⟩ = some (.int .i64 x.e) := bA_z2.out.cell 2
  have cbA3 : z2.cell? ⟨(w1.heap.size + 1), 3, none⟩ = some (.string x.n) := bA_z2.out.cell 3
  go_wp2_with fail
  refine (specPutR hp vp aP cp P ga ca x _ DP_z2.out DX_z2.out EQ.out.1 EQ.out.2.1 EQ.out.2.2).mono ?_
  rintro e w3 ⟨⟨My, cy, rfl, hr⟩, hb⟩
  clear cbP0 cbP1 cbP2 cbA0 cbA1 cbA2 cbA3
  have NRY : Hid (Pt w3 (some ⟨My, 0, none⟩) Q) := ⟨hr, FQ.out⟩
  have B_w3 : Hid (Below w.heap.size w w3) := grow_on B_z2.out hb
  have DP_w3 : Hid (Pt w3 aP P) := DP_z2.out.below hb
  have DX_w3 : Hid (DAl w3 ga x) := DX_z2.out.below hb
  have bP_w3 : Hid (Blk w3 w1.heap.size #[.int .i64 hp, .int .i64 vp, .slice aP P.length cp] 26) := bP_z2.out.grow hb
  have bA_w3 : Hid (Blk w3 (w1.heap.size + 1) #[.slice (some ⟨ga, 0, none⟩) x.l.length ca, .int .i64 x.s, .int .i64 x.e, .string x.n] 29) := bA_z2.out.grow hb
  have RX_w3 : Hid (Pt w3 (some ⟨Mx, 0, none⟩) Q) := RX_z2.out.below hb
  have bX_w3 : Hid (Blk w3 w2.heap.size #[.int .i64 hp, .int .i64 vu, .slice (some ⟨Mx, 0, none⟩) Q.length cx] 26) := bX_z2.out.grow hb
  clear B_z2 DP_z2 DX_z2 bP_z2 bA_z2 RX_z2 bX_z2
  have RY_w3 : Hid (Pt w3 (some ⟨My, 0, none⟩) Q) := NRY.out
  clear NRY
  clear hb
  go_upto_region 6 with fail
  generalize hz : w3.alloc (.cells #[.int .i64 hp, .int .i64 vu, .slice (some ⟨My, 0, none⟩) Q.length cy] 26) = z3
  have hbz : Below w3.heap.size w3 z3 := by rw [← hz]; exact Go.Joins.below_alloc1 w3 _
  have bY_z3 : Hid (Blk z3 w3.heap.size #[.int .i64 hp, .int .i64 vu, .slice (some ⟨My, 0, none⟩) Q.length cy] 26) := by rw [← hz]; exact (Blk.new _ _ _)
  clear hz
  have B_z3 : Hid (Below w.heap.size w z3) := grow_on B_w3.out hbz
  have DP_z3 : Hid (Pt z3 aP P) := DP_w3.out.below hbz
  have DX_z3 : Hid (DAl z3 ga x) := DX_w3.out.below hbz
  have bP_z3 : Hid (Blk z3 w1.heap.size #[.int .i64 hp, .int .i64 vp, .slice aP P.length cp] 26) := bP_w3.out.grow hbz
  have bA_z3 : Hid (Blk z3 (w1.heap.size + 1) #[.slice (some ⟨ga, 0, none⟩) x.l.length ca, .int .i64 x.s, .int .i64 x.e, .string x.n] 29) := bA_w3.out.grow hbz
  have RX_z3 : Hid (Pt z3 (some ⟨Mx, 0, none⟩) Q) := RX_w3.out.below hbz
  have bX_z3 : Hid (Blk z3 w2.heap.size #[.int .i64 hp, .int .i64 vu, .slice (some ⟨Mx, 0, none⟩) Q.length cx] 26) := bX_w3.out.grow hbz
  have RY_z3 : Hid (Pt z3 (some ⟨My, 0, none⟩) Q) := RY_w3.out.below hbz
  clear B_w3 DP_w3 DX_w3 bP_w3 bA_w3 RX_w3 bX_w3 RY_w3
  clear hbz
  go_wp2_with fail
  refine (drawFind_any a len cap _ HL.out (bytes_up HB.out B_z3.out)).mono ?_
  rintro e w4 ⟨⟨hq, vq, aQ, cq, Pq, gl, cl, q, rfl, hr, -, hr', hfq, hq8⟩, hb⟩
  obtain ⟨Yu, hYu⟩ : ∃ Yu, findD Pq q = Yu := ⟨_, rfl⟩
  obtain ⟨ok, hok⟩ : ∃ ok, (findB Pq q).isSome = ok := ⟨_, rfl⟩
  have EU : Hid (findD Pq q = Yu ∧ (findB Pq q).isSome = ok ∧ Fine Yu ∧ q.length ≤ 8 ∧ LabT.Fits q) := ⟨hYu, hok, by rw [← hYu]; exact fine_find hr.2.1 q, hq8, hfq⟩
  clear hYu hok hq8 hfq
  have NDQ : Hid (Pt w4 aQ Pq) := pt_of hr
  have NRQ : Hid (Reads w4 (some ⟨gl, 0, none⟩) q) := hr'
  have B_w4 : Hid (Below w.heap.size w w4) := grow_on B_z3.out hb
  have DP_w4 : Hid (Pt w4 aP P) := DP_z3.out.below hb
  have DX_w4 : Hid (DAl w4 ga x) := DX_z3.out.below hb
  have bP_w4 : Hid (Blk w4 w1.heap.size #[.int .i64 hp, .int .i64 vp, .slice aP P.length cp] 26) := bP_z3.out.grow hb
  have bA_w4 : Hid (Blk w4 (w1.heap.size + 1) #[.slice (some ⟨ga, 0, none⟩) x.l.length ca, .int .i64 x.s, .int .i64 x.e, .string x.n] 29) := bA_z3.out.grow hb
  have RX_w4 : Hid (Pt w4 (some ⟨Mx, 0, none⟩) Q) := RX_z3.out.below hb
  have bX_w4 : Hid (Blk w4 w2.heap.size #[.int .i64 hp, .int .i64 vu, .slice (some ⟨Mx, 0, none⟩) Q.length cx] 26) := bX_z3.out.grow hb
  have RY_w4 : Hid (Pt w4 (some ⟨My, 0, none⟩) Q) := RY_z3.out.below hb
  have bY_w4 : Hid (Blk w4 w3.heap.size #[.int .i64 hp, .int .i64 vu, .slice (some ⟨My, 0, none⟩) Q.length cy] 26) := bY_z3.out.grow hb
  clear B_z3 DP_z3 DX_z3 bP_z3 bA_z3 RX_z3 bX_z3 RY_z3 bY_z3
  have DQ_w4 : Hid (Pt w4 aQ Pq) := NDQ.out
  clear NDQ
  have RQ_w4 : Hid (Reads w4 (some ⟨gl, 0, none⟩) q) := NRQ.out
  clear NRQ
  clear hb
  go_upto_region 7 with fail
  generalize hz : w4.alloc (.cells #[.int .i64 hq, .int .i64 vq, .slice aQ Pq.length cq] 26) = z4
  have hbz : Below w4.heap.size w4 z4 := by rw [← hz]; exact Go.Joins.below_alloc1 w4 _
  have bQ_z4 : Hid (Blk z4 w4.heap.size #[.int .i64 hq, .int .i64 vq, .slice aQ Pq.length cq] 26) := by rw [← hz]; exact (Blk.new _ _ _)
  clear hz
  have B_z4 : Hid (Below w.heap.size w z4) := grow_on B_w4.out hbz
  have DP_z4 : Hid (Pt z4 aP P) := DP_w4.out.below hbz
  have DX_z4 : Hid (DAl z4 ga x) := DX_w4.out.below hbz
  have bP_z4 : Hid (Blk z4 w1.heap.size #[.int .i64 hp, .int .i64 vp, .slice aP P.length cp] 26) := bP_w4.out.grow hbz
  have bA_z4 : Hid (Blk z4 (w1.heap.size + 1) #[.slice (some ⟨ga, 0, none⟩) x.l.length ca, .int .i64 x.s, .int .i64 x.e, .string x.n] 29) := bA_w4.out.grow hbz
  have RX_z4 : Hid (Pt z4 (some ⟨Mx, 0, none⟩) Q) := RX_w4.out.below hbz
  have bX_z4 : Hid (Blk z4 w2.heap.size #[.int .i64 hp, .int .i64 vu, .slice (some ⟨Mx, 0, none⟩) Q.length cx] 26) := bX_w4.out.grow hbz
  have RY_z4 : Hid (Pt z4 (some ⟨My, 0, none⟩) Q) := RY_w4.out.below hbz
  have bY_z4 : Hid (Blk z4 w3.heap.size #[.int .i64 hp, .int .i64 vu, .slice (some ⟨My, 0, none⟩) Q.length cy] 26) := bY_w4.out.grow hbz
  have DQ_z4 : Hid (Pt z4 aQ Pq) := DQ_w4.out.below hbz
  have RQ_z4 : Hid (Reads z4 (some ⟨gl, 0, none⟩) q) := RQ_w4.out.below hbz
  clear B_w4 DP_w4 DX_w4 bP_w4 bA_w4 RX_w4 bX_w4 RY_w4 bY_w4 DQ_w4 RQ_w4
  clear hbz
  have cbQ0 : z4.cell? ⟨w4.heap.size, 0, none⟩ = some (.int .i64 hq) := bQ_z4.out.cell 0
  have cbQ1 : z4.cell? ⟨w4.heap.size, 1, none⟩ = some (.int .i64 vq) := bQ_z4.out.cell 1
  have cbQ2 : z4.cell? ⟨w4.heap.size, 2, none⟩ = some (.slice aQ Pq.length cq) := bQ_z4.out.cell 2
  go_wp2_with fail
  refine (implFindR hq vq aQ _ cq cl Pq q _ DQ_z4.out RQ_z4.out EU.out.2.2.2.1 EU.out.2.2.2.2 EU.out.1 EU.out.2.1).mono ?_
  rintro e w5 ⟨⟨bu, cu, rfl, hr⟩, hb⟩
  clear cbQ0 cbQ1 cbQ2
  have NRU : Hid (Reads w5 bu Yu.l) := hr
  have B_w5 : Hid (Below w.heap.size w w5) := grow_on B_z4.out hb
  have DP_w5 : Hid (Pt w5 aP P) := DP_z4.out.below hb
  have DX_w5 : Hid (DAl w5 ga x) := DX_z4.out.below hb
  have bP_w5 : Hid (Blk w5 w1.heap.size #[.int .i64 hp, .int .i64 vp, .slice aP P.length cp] 26) := bP_z4.out.grow hb
  have bA_w5 : Hid (Blk w5 (w1.heap.size + 1) #[.slice (some ⟨ga, 0, none⟩) x.l.length ca, .int .i64 x.s, .int .i64 x.e, .string x.n] 29) := bA_z4.out.grow hb
  have RX_w5 : Hid (Pt w5 (some ⟨Mx, 0, none⟩) Q) := RX_z4.out.below hb
  have bX_w5 : Hid (Blk w5 w2.heap.size #[.int .i64 hp, .int .i64 vu, .slice (some ⟨Mx, 0, none⟩) Q.length cx] 26) := bX_z4.out.grow hb
  have RY_w5 : Hid (Pt w5 (some ⟨My, 0, none⟩) Q) := RY_z4.out.below hb
  have bY_w5 : Hid (Blk w5 w3.heap.size #[.int .i64 hp, .int .i64 vu, .slice (some ⟨My, 0, none⟩) Q.length cy] 26) := bY_z4.out.grow hb
  have DQ_w5 : Hid (Pt w5 aQ Pq) := DQ_z4.out.below hb
  have RQ_w5 : Hid (Reads w5 (some ⟨gl, 0, none⟩) q) := RQ_z4.out.below hb
  have bQ_w5 : Hid (Blk w5 w4.heap.size #[.int .i64 hq, .int .i64 vq, .slice aQ Pq.length cq] 26) := bQ_z4.out.grow hb
  clear B_z4 DP_z4 DX_z4 bP_z4 bA_z4 RX_z4 bX_z4 RY_z4 bY_z4 DQ_z4 RQ_z4 bQ_z4
  have RU_w5 : Hid (Reads w5 bu Yu.l) := NRU.out
  clear NRU
  clear hb
  go_upto_region 8 with fail
  generalize hz : w5.alloc (.cells #[.slice bu Yu.l.length cu, .int .i64 Yu.s, .int .i64 Yu.e, .string Yu.n] 29) = z5
  have hbz : Below w5.heap.size w5 z5 := by rw [← hz]; exact Go.Joins.below_alloc1 w5 _
  have bU_z5 : Hid (Blk z5 w5.heap.size #[.slice bu Yu.l.length cu, .int .i64 Yu.s, .int .i64 Yu.e, .string Yu.n] 29) := by rw [← hz]; exact (Blk.new _ _ _)
  clear hz
  have B_z5 : Hid (Below w.heap.size w z5) := grow_on B_w5.out hbz
  have DP_z5 : Hid (Pt z5 aP P) := DP_w5.out.below hbz
  have DX_z5 : Hid (DAl z5 ga x) := DX_w5.out.below hbz
  have bP_z5 : Hid (Blk z5 w1.heap.size #[.int .i64 hp, .int .i64 vp, .slice aP P.length cp] 26) := bP_w5.out.grow hbz
  have bA_z5 : Hid (Blk z5 (w1.heap.size + 1) #[.slice (some ⟨ga, 0, none⟩) x.l.length ca, .int .i64 x.s, .int .i64 x.e, .string x.n] 29) := bA_w5.out.grow hbz
  have RX_z5 : Hid (Pt z5 (some ⟨Mx, 0, none⟩) Q) := RX_w5.out.below hbz
  have bX_z5 : Hid (Blk z5 w2.heap.size #[.int .i64 hp, .int .i64 vu, .slice (some ⟨Mx, 0, none⟩) Q.length cx] 26) := bX_w5.out.grow hbz
  have RY_z5 : Hid (Pt z5 (some ⟨My, 0, none⟩) Q) := RY_w5.out.below hbz
  have bY_z5 : Hid (Blk z5 w3.heap.size #[.int .i64 hp, .int .i64 vu, .slice (some ⟨My, 0, none⟩) Q.length cy] 26) := bY_w5.out.grow hbz
  have DQ_z5 : Hid (Pt z5 aQ Pq) := DQ_w5.out.below hbz
  have RQ_z5 : Hid (Reads z5 (some ⟨gl, 0, none⟩) q) := RQ_w5.out.below hbz
  have bQ_z5 : Hid (Blk z5 w4.heap.size #[.int .i64 hq, .int .i64 vq, .slice aQ Pq.length cq] 26) := bQ_w5.out.grow hbz
  have RU_z5 : Hid (Reads z5 bu Yu.l) := RU_w5.out.below hbz
  clear B_w5 DP_w5 DX_w5 bP_w5 bA_w5 RX_w5 bX_w5 RY_w5 bY_w5 DQ_w5 RQ_w5 bQ_w5 RU_w5
  clear hbz
  have cbQ0 : z5.cell? ⟨w4.heap.size, 0, none⟩ = some (.int .i64 hq) := bQ_z5.out.cell 0
  have cbQ1 : z5.cell? ⟨w4.heap.size, 1, none⟩ = some (.int .i64 vq) := bQ_z5.out.cell 1
  have cbQ2 : z5.cell? ⟨w4.heap.size, 2, none⟩ = some (.slice aQ Pq.length cq) := bQ_z5.out.cell 2
  go_wp2_with fail
  refine (specFindR hq vq aQ _ cq cl Pq q _ DQ_z5.out RQ_z5.out EU.out.2.2.2.1 EU.out.2.2.2.2 EU.out.1 EU.out.2.1).mono ?_
  rintro e w6 ⟨⟨bv, cv, rfl, hr⟩, hb⟩
  clear cbQ0 cbQ1 cbQ2
  have NRV : Hid (Reads w6 bv Yu.l) := hr
  have B_w6 : Hid (Below w.heap.size w w6) := grow_on B_z5.out hb
  have DP_w6 : Hid (Pt w6 aP P) := DP_z5.out.below hb
  have DX_w6 : Hid (DAl w6 ga x) := DX_z5.out.below hb
  have bP_w6 : Hid (Blk w6 w1.heap.size #[.int .i64 hp, .int .i64 vp, .slice aP P.length cp] 26) := bP_z5.out.grow hb
  have bA_w6 : Hid (Blk w6 (w1.heap.size + 1) #[.slice (some ⟨ga, 0, none⟩) x.l.length ca, .int .i64 x.s, .int .i64 x.e, .string x.n] 29) := bA_z5.out.grow hb
  have RX_w6 : Hid (Pt w6 (some ⟨Mx, 0, none⟩) Q) := RX_z5.out.below hb
  have bX_w6 : Hid (Blk w6 w2.heap.size #[.int .i64 hp, .int .i64 vu, .slice (some ⟨Mx, 0, none⟩) Q.length cx] 26) := bX_z5.out.grow hb
  have RY_w6 : Hid (Pt w6 (some ⟨My, 0, none⟩) Q) := RY_z5.out.below hb
  have bY_w6 : Hid (Blk w6 w3.heap.size #[.int .i64 hp, .int .i64 vu, .slice (some ⟨My, 0, none⟩) Q.length cy] 26) := bY_z5.out.grow hb
  have DQ_w6 : Hid (Pt w6 aQ Pq) := DQ_z5.out.below hb
  have RQ_w6 : Hid (Reads w6 (some ⟨gl, 0, none⟩) q) := RQ_z5.out.below hb
  have bQ_w6 : Hid (Blk w6 w4.heap.size #[.int .i64 hq, .int .i64 vq, .slice aQ Pq.length cq] 26) := bQ_z5.out.grow hb
  have RU_w6 : Hid (Reads w6 bu Yu.l) := RU_z5.out.below hb
  have bU_w6 : Hid (Blk w6 w5.heap.size #[.slice bu Yu.l.length cu, .int .i64 Yu.s, .int .i64 Yu.e, .string Yu.n] 29) := bU_z5.out.grow hb
  clear B_z5 DP_z5 DX_z5 bP_z5 bA_z5 RX_z5 bX_z5 RY_z5 bY_z5 DQ_z5 RQ_z5 bQ_z5 RU_z5 bU_z5
  have RV_w6 : Hid (Reads w6 bv Yu.l) := NRV.out
  clear NRV
  clear hb
  go_upto_region 9 with fail
  generalize hz : w6.alloc (.cells #[.slice bv Yu.l.length cv, .int .i64 Yu.s, .int .i64 Yu.e, .string Yu.n] 29) = z6
  have hbz : Below w6.heap.size w6 z6 := by rw [← hz]; exact Go.Joins.below_alloc1 w6 _
  have bV_z6 : Hid (Blk z6 w6.heap.size #[.slice bv Yu.l.length cv, .int .i64 Yu.s, .int .i64 Yu.e, .string Yu.n] 29) := by rw [← hz]; exact (Blk.new _ _ _)
  clear hz
  have B_z6 : Hid (Below w.heap.size w z6) := grow_on B_w6.out hbz
  have DP_z6 : Hid (Pt z6 aP P) := DP_w6.out.below hbz
  have DX_z6 : Hid (DAl z6 ga x) := DX_w6.out.below hbz
  have bP_z6 : Hid (Blk z6 w1.heap.size #[.int .i64 hp, .int .i64 vp, .slice aP P.length cp] 26) := bP_w6.out.grow hbz
  have bA_z6 : Hid (Blk z6 (w1.heap.size + 1) #[.slice (some ⟨ga, 0, none⟩) x.l.length ca, .int .i64 x.s, .int .i64 x.e, .string x.n] 29) := bA_w6.out.grow hbz
  have RX_z6 : Hid (Pt z6 (some ⟨Mx, 0, none⟩) Q) := RX_w6.out.below hbz
  have bX_z6 : Hid (Blk z6 w2.heap.size #[.int .i64 hp, .int .i64 vu, .slice (some ⟨Mx, 0, none⟩) Q.length cx] 26) := bX_w6.out.grow hbz
  have RY_z6 : Hid (Pt z6 (some ⟨My, 0, none⟩) Q) := RY_w6.out.below hbz
  have bY_z6 : Hid (Blk z6 w3.heap.size #[.int .i64 hp, .int .i64 vu, .slice (some ⟨My, 0, none⟩) Q.length cy] 26) := bY_w6.out.grow hbz
  have DQ_z6 : Hid (Pt z6 aQ Pq) := DQ_w6.out.below hbz
  have RQ_z6 : Hid (Reads z6 (some ⟨gl, 0, none⟩) q) := RQ_w6.out.below hbz
  have bQ_z6 : Hid (Blk z6 w4.heap.size #[.int .i64 hq, .int .i64 vq, .slice aQ Pq.length cq] 26) := bQ_w6.out.grow hbz
  have RU_z6 : Hid (Reads z6 bu Yu.l) := RU_w6.out.below hbz
  have bU_z6 : Hid (Blk z6 w5.heap.size #[.slice bu Yu.l.length cu, .int .i64 Yu.s, .int .i64 Yu.e, .string Yu.n] 29) := bU_w6.out.grow hbz
  have RV_z6 : Hid (Reads z6 bv Yu.l) := RV_w6.out.below hbz
  clear B_w6 DP_w6 DX_w6 bP_w6 bA_w6 RX_w6 bX_w6 RY_w6 bY_w6 DQ_w6 RQ_w6 bQ_w6 RU_w6 bU_w6 RV_w6
  clear hbz
  go_wp2_with fail
  refine (drawSweep_any a len cap _ HL.out (bytes_up HB.out B_z6.out)).mono ?_
  rintro e w7 ⟨⟨hr0, vr0, aR, cr, R, now, rfl, hr, hn, -⟩, hb⟩
  obtain ⟨SW, hSW⟩ : ∃ SW, sweepTo R now R.length = SW := ⟨_, rfl⟩
  obtain ⟨GO, hGO⟩ : ∃ GO, gonesTo R now R.length = GO := ⟨_, rfl⟩
  obtain ⟨vs, hvs⟩ : ∃ vs, verS vr0 GO.length = vs := ⟨_, rfl⟩
  obtain ⟨AL, hAL⟩ : ∃ AL, allC SW = AL := ⟨_, rfl⟩
  obtain ⟨AR, hAR⟩ : ∃ AR, allC R = AR := ⟨_, rfl⟩
  have ES : Hid (sweepTo R now R.length = SW ∧ gonesTo R now R.length = GO ∧ verS vr0 GO.length = vs ∧ allC SW = AL ∧ allC R = AR) := ⟨hSW, hGO, hvs, hAL, hAR⟩
  have FS : Hid (FinC 8 SW ∧ SW.length ≤ 9) := by
    have h1 := (sweep_sum (C := R) (now := now) (k := R.length) (Nat.le_refl _)).2
    rw [hSW] at h1
    have h2 := hr.2.2
    exact ⟨by rw [← hSW]; exact (sweep_fin (hr.2.1.mono (by omega))).1, by omega⟩
  have FG : Hid (Fines GO ∧ Fines AL ∧ Fines AR ∧ AL.length + GO.length = AR.length ∧ AR.length ≤ 504) := by
    have h1 := sweep_len R now
    rw [hSW, hGO, hAL, hAR] at h1
    have h2 := allC_sum R
    rw [hAR] at h2
    have h3 := hr.sum
    exact ⟨by rw [← hGO]; exact (sweep_fin hr.2.1).2, by rw [← hAL]; exact finC_all FS.out.1, by rw [← hAR]; exact finC_all hr.2.1, h1, by omega⟩
  have FO : Hid (∀ k, k < AL.length → overB (nthP AL k).e now = false) := fun k hk => by
    have hm := nthP_mem hk
    generalize nthP AL k = y at hm
    rw [← hAL, ← hSW] at hm
    exact sweep_over hm
  have FV : Hid ((vs != vr0) = decide ((GO.length : Int) > 0)) := by rw [← hvs]; exact ver_tell hn.2.1 hn.2.2
  clear hSW hGO hvs hAL hAR hn
  have NDR : Hid (Pt w7 aR R) := pt_of hr
  have B_w7 : Hid (Below w.heap.size w w7) := grow_on B_z6.out hb
  have DP_w7 : Hid (Pt w7 aP P) := DP_z6.out.below hb
  have DX_w7 : Hid (DAl w7 ga x) := DX_z6.out.below hb
  have bP_w7 : Hid (Blk w7 w1.heap.size #[.int .i64 hp, .int .i64 vp, .slice aP P.length cp] 26) := bP_z6.out.grow hb
  have bA_w7 : Hid (Blk w7 (w1.heap.size + 1) #[.slice (some ⟨ga, 0, none⟩) x.l.length ca, .int .i64 x.s, .int .i64 x.e, .string x.n] 29) := bA_z6.out.grow hb
  have RX_w7 : Hid (Pt w7 (some ⟨Mx, 0, none⟩) Q) := RX_z6.out.below hb
  have bX_w7 : Hid (Blk w7 w2.heap.size #[.int .i64 hp, .int .i64 vu, .slice (some ⟨Mx, 0, none⟩) Q.length cx] 26) := bX_z6.out.grow hb
  have RY_w7 : Hid (Pt w7 (some ⟨My, 0, none⟩) Q) := RY_z6.out.below hb
  have bY_w7 : Hid (Blk w7 w3.heap.size #[.int .i64 hp, .int .i64 vu, .slice (some ⟨My, 0, none⟩) Q.length cy] 26) := bY_z6.out.grow hb
  have DQ_w7 : Hid (Pt w7 aQ Pq) := DQ_z6.out.below hb
  have RQ_w7 : Hid (Reads w7 (some ⟨gl, 0, none⟩) q) := RQ_z6.out.below hb
  have bQ_w7 : Hid (Blk w7 w4.heap.size #[.int .i64 hq, .int .i64 vq, .slice aQ Pq.length cq] 26) := bQ_z6.out.grow hb
  have RU_w7 : Hid (Reads w7 bu Yu.l) := RU_z6.out.below hb
  have bU_w7 : Hid (Blk w7 w5.heap.size #[.slice bu Yu.l.length cu, .int .i64 Yu.s, .int .i64 Yu.e, .string Yu.n] 29) := bU_z6.out.grow hb
  have RV_w7 : Hid (Reads w7 bv Yu.l) := RV_z6.out.below hb
  have bV_w7 : Hid (Blk w7 w6.heap.size #[.slice bv Yu.l.length cv, .int .i64 Yu.s, .int .i64 Yu.e, .string Yu.n] 29) := bV_z6.out.grow hb
  clear B_z6 DP_z6 DX_z6 bP_z6 bA_z6 RX_z6 bX_z6 RY_z6 bY_z6 DQ_z6 RQ_z6 bQ_z6 RU_z6 bU_z6 RV_z6 bV_z6
  have DR_w7 : Hid (Pt w7 aR R) := NDR.out
  clear NDR
  clear hb
  go_upto_region 10 with fail
  generalize hz : w7.alloc (.cells #[.int .i64 hr0, .int .i64 vr0, .slice aR R.length cr] 26) = z7
  have hbz : Below w7.heap.size w7 z7 := by rw [← hz]; exact Go.Joins.below_alloc1 w7 _
  have bR_z7 : Hid (Blk z7 w7.heap.size #[.int .i64 hr0, .int .i64 vr0, .slice aR R.length cr] 26) := by rw [← hz]; exact (Blk.new _ _ _)
  clear hz
  have B_z7 : Hid (Below w.heap.size w z7) := grow_on B_w7.out hbz
  have DP_z7 : Hid (Pt z7 aP P) := DP_w7.out.below hbz
  have DX_z7 : Hid (DAl z7 ga x) := DX_w7.out.below hbz
  have bP_z7 : Hid (Blk z7 w1.heap.size #[.int .i64 hp, .int .i64 vp, .slice aP P.length cp] 26) := bP_w7.out.grow hbz
  have bA_z7 : Hid (Blk z7 (w1.heap.size + 1) #[.slice (some ⟨ga, 0, none⟩) x.l.length ca, .int .i64 x.s, .int .i64 x.e, .string x.n] 29) := bA_w7.out.grow hbz
  have RX_z7 : Hid (Pt z7 (some ⟨Mx, 0, none⟩) Q) := RX_w7.out.below hbz
  have bX_z7 : Hid (Blk z7 w2.heap.size #[.int .i64 hp, .int .i64 vu, .slice (some ⟨Mx, 0, none⟩) Q.length cx] 26) := bX_w7.out.grow hbz
  have RY_z7 : Hid (Pt z7 (some ⟨My, 0, none⟩) Q) := RY_w7.out.below hbz
  have bY_z7 : Hid (Blk z7 w3.heap.size #[.int .i64 hp, .int .i64 vu, .slice (some ⟨My, 0, none⟩) Q.length cy] 26) := bY_w7.out.grow hbz
  have DQ_z7 : Hid (Pt z7 aQ Pq) := DQ_w7.out.below hbz
  have RQ_z7 : Hid (Reads z7 (some ⟨gl, 0, none⟩) q) := RQ_w7.out.below hbz
  have bQ_z7 : Hid (Blk z7 w4.heap.size #[.int .i64 hq, .int .i64 vq, .slice aQ Pq.length cq] 26) := bQ_w7.out.grow hbz
  have RU_z7 : Hid (Reads z7 bu Yu.l) := RU_w7.out.below hbz
  have bU_z7 : Hid (Blk z7 w5.heap.size #[.slice bu Yu.l.length cu, .int .i64 Yu.s, .int .i64 Yu.e, .string Yu.n] 29) := bU_w7.out.grow hbz
  have RV_z7 : Hid (Reads z7 bv Yu.l) := RV_w7.out.below hbz
  have bV_z7 : Hid (Blk z7 w6.heap.size #[.slice bv Yu.l.length cv, .int .i64 Yu.s, .int .i64 Yu.e, .string Yu.n] 29) := bV_w7.out.grow hbz
  have DR_z7 : Hid (Pt z7 aR R) := DR_w7.out.below hbz
  clear B_w7 DP_w7 DX_w7 bP_w7 bA_w7 RX_w7 bX_w7 RY_w7 bY_w7 DQ_w7 RQ_w7 bQ_w7 RU_w7 bU_w7 RV_w7 bV_w7 DR_w7
  clear hbz
  have cbR0 : z7.cell? ⟨w7.heap.size, 0, none⟩ = some (.int .i64 hr0) := bR_z7.out.cell 0
  have cbR1 : z7.cell? ⟨w7.heap.size, 1, none⟩ = some (.int .i64 vr0) := bR_z7.out.cell 1
  have cbR2 : z7.cell? ⟨w7.heap.size, 2, none⟩ = some (.slice aR R.length cr) := bR_z7.out.cell 2
  go_wp2_with fail
  refine (implSweepR hr0 vr0 now aR cr R _ DR_z7.out ES.out.1 ES.out.2.1 ES.out.2.2.1).mono ?_
  rintro e w8 ⟨⟨Ms, cs, Mg, cg, rfl, hr, hr'⟩, hb⟩
  clear cbR0 cbR1 cbR2
  have NRS : Hid (Pt w8 (some ⟨Ms, 0, none⟩) SW) := ⟨hr, FS.out⟩
  have NRG : Hid (RdN w8 (some ⟨Mg, 0, none⟩) GO) := hr'
  have B_w8 : Hid (Below w.heap.size w w8) := grow_on B_z7.out hb
  have DP_w8 : Hid (Pt w8 aP P) := DP_z7.out.below hb
  have DX_w8 : Hid (DAl w8 ga x) := DX_z7.out.below hb
  have bP_w8 : Hid (Blk w8 w1.heap.size #[.int .i64 hp, .int .i64 vp, .slice aP P.length cp] 26) := bP_z7.out.grow hb
  have bA_w8 : Hid (Blk w8 (w1.heap.size + 1) #[.slice (some ⟨ga, 0, none⟩) x.l.length ca, .int .i64 x.s, .int .i64 x.e, .string x.n] 29) := bA_z7.out.grow hb
  have RX_w8 : Hid (Pt w8 (some ⟨Mx, 0, none⟩) Q) := RX_z7.out.below hb
  have bX_w8 : Hid (Blk w8 w2.heap.size #[.int .i64 hp, .int .i64 vu, .slice (some ⟨Mx, 0, none⟩) Q.length cx] 26) := bX_z7.out.grow hb
  have RY_w8 : Hid (Pt w8 (some ⟨My, 0, none⟩) Q) := RY_z7.out.below hb
  have bY_w8 : Hid (Blk w8 w3.heap.size #[.int .i64 hp, .int .i64 vu, .slice (some ⟨My, 0, none⟩) Q.length cy] 26) := bY_z7.out.grow hb
  have DQ_w8 : Hid (Pt w8 aQ Pq) := DQ_z7.out.below hb
  have RQ_w8 : Hid (Reads w8 (some ⟨gl, 0, none⟩) q) := RQ_z7.out.below hb
  have bQ_w8 : Hid (Blk w8 w4.heap.size #[.int .i64 hq, .int .i64 vq, .slice aQ Pq.length cq] 26) := bQ_z7.out.grow hb
  have RU_w8 : Hid (Reads w8 bu Yu.l) := RU_z7.out.below hb
  have bU_w8 : Hid (Blk w8 w5.heap.size #[.slice bu Yu.l.length cu, .int .i64 Yu.s, .int .i64 Yu.e, .string Yu.n] 29) := bU_z7.out.grow hb
  have RV_w8 : Hid (Reads w8 bv Yu.l) := RV_z7.out.below hb
  have bV_w8 : Hid (Blk w8 w6.heap.size #[.slice bv Yu.l.length cv, .int .i64 Yu.s, .int .i64 Yu.e, .string Yu.n] 29) := bV_z7.out.grow hb
  have DR_w8 : Hid (Pt w8 aR R) := DR_z7.out.below hb
  have bR_w8 : Hid (Blk w8 w7.heap.size #[.int .i64 hr0, .int .i64 vr0, .slice aR R.length cr] 26) := bR_z7.out.grow hb
  clear B_z7 DP_z7 DX_z7 bP_z7 bA_z7 RX_z7 bX_z7 RY_z7 bY_z7 DQ_z7 RQ_z7 bQ_z7 RU_z7 bU_z7 RV_z7 bV_z7 DR_z7 bR_z7
  have RS_w8 : Hid (Pt w8 (some ⟨Ms, 0, none⟩) SW) := NRS.out
  clear NRS
  have RG_w8 : Hid (RdN w8 (some ⟨Mg, 0, none⟩) GO) := NRG.out
  clear NRG
  clear hb
  go_upto_region 11 with fail
  generalize hz : w8.alloc (.cells #[.int .i64 hr0, .int .i64 vs, .slice (some ⟨Ms, 0, none⟩) SW.length cs] 26) = z8
  have hbz : Below w8.heap.size w8 z8 := by rw [← hz]; exact Go.Joins.below_alloc1 w8 _
  have bS_z8 : Hid (Blk z8 w8.heap.size #[.int .i64 hr0, .int .i64 vs, .slice (some ⟨Ms, 0, none⟩) SW.length cs] 26) := by rw [← hz]; exact (Blk.new _ _ _)
  clear hz
  have B_z8 : Hid (Below w.heap.size w z8) := grow_on B_w8.out hbz
  have DP_z8 : Hid (Pt z8 aP P) := DP_w8.out.below hbz
  have DX_z8 : Hid (DAl z8 ga x) := DX_w8.out.below hbz
  have bP_z8 : Hid (Blk z8 w1.heap.size #[.int .i64 hp, .int .i64 vp, .slice aP P.length cp] 26) := bP_w8.out.grow hbz
  have bA_z8 : Hid (Blk z8 (w1.heap.size + 1) #[.slice (some ⟨ga, 0, none⟩) x.l.length ca, .int .i64 x.s, .int .i64 x.e, .string x.n] 29) := bA_w8.out.grow hbz
  have RX_z8 : Hid (Pt z8 (some ⟨Mx, 0, none⟩) Q) := RX_w8.out.below hbz
  have bX_z8 : Hid (Blk z8 w2.heap.size #[.int .i64 hp, .int .i64 vu, .slice (some ⟨Mx, 0, none⟩) Q.length cx] 26) := bX_w8.out.grow hbz
  have RY_z8 : Hid (Pt z8 (some ⟨My, 0, none⟩) Q) := RY_w8.out.below hbz
  have bY_z8 : Hid (Blk z8 w3.heap.size #[.int .i64 hp, .int .i64 vu, .slice (some ⟨My, 0, none⟩) Q.length cy] 26) := bY_w8.out.grow hbz
  have DQ_z8 : Hid (Pt z8 aQ Pq) := DQ_w8.out.below hbz
  have RQ_z8 : Hid (Reads z8 (some ⟨gl, 0, none⟩) q) := RQ_w8.out.below hbz
  have bQ_z8 : Hid (Blk z8 w4.heap.size #[.int .i64 hq, .int .i64 vq, .slice aQ Pq.length cq] 26) := bQ_w8.out.grow hbz
  have RU_z8 : Hid (Reads z8 bu Yu.l) := RU_w8.out.below hbz
  have bU_z8 : Hid (Blk z8 w5.heap.size #[.slice bu Yu.l.length cu, .int .i64 Yu.s, .int .i64 Yu.e, .string Yu.n] 29) := bU_w8.out.grow hbz
  have RV_z8 : Hid (Reads z8 bv Yu.l) := RV_w8.out.below hbz
  have bV_z8 : Hid (Blk z8 w6.heap.size #[.slice bv Yu.l.length cv, .int .i64 Yu.s, .int .i64 Yu.e, .string Yu.n] 29) := bV_w8.out.grow hbz
  have DR_z8 : Hid (Pt z8 aR R) := DR_w8.out.below hbz
  have bR_z8 : Hid (Blk z8 w7.heap.size #[.int .i64 hr0, .int .i64 vr0, .slice aR R.length cr] 26) := bR_w8.out.grow hbz
  have RS_z8 : Hid (Pt z8 (some ⟨Ms, 0, none⟩) SW) := RS_w8.out.below hbz
  have RG_z8 : Hid (RdN z8 (some ⟨Mg, 0, none⟩) GO) := RG_w8.out.below hbz
  clear B_w8 DP_w8 DX_w8 bP_w8 bA_w8 RX_w8 bX_w8 RY_w8 bY_w8 DQ_w8 RQ_w8 bQ_w8 RU_w8 bU_w8 RV_w8 bV_w8 DR_w8 bR_w8 RS_w8 RG_w8
  clear hbz
  have cbR0 : z8.cell? ⟨w7.heap.size, 0, none⟩ = some (.int .i64 hr0) := bR_z8.out.cell 0
  have cbR1 : z8.cell? ⟨w7.heap.size, 1, none⟩ = some (.int .i64 vr0) := bR_z8.out.cell 1
  have cbR2 : z8.cell? ⟨w7.heap.size, 2, none⟩ = some (.slice aR R.length cr) := bR_z8.out.cell 2
  go_wp2_with fail
  refine (specSweepR hr0 vr0 now aR cr R _ DR_z8.out ES.out.1 ES.out.2.1 ES.out.2.2.1).mono ?_
  rintro e w9 ⟨⟨Mt, ct, Mw, cw, rfl, hr, hr'⟩, hb⟩
  clear cbR0 cbR1 cbR2
  have NRT : Hid (Pt w9 (some ⟨Mt, 0, none⟩) SW) := ⟨hr, FS.out⟩
  have NRW : Hid (RdN w9 (some ⟨Mw, 0, none⟩) GO) := hr'
  have B_w9 : Hid (Below w.heap.size w w9) := grow_on B_z8.out hb
  have DP_w9 : Hid (Pt w9 aP P) := DP_z8.out.below hb
  have DX_w9 : Hid (DAl w9 ga x) := DX_z8.out.below hb
  have bP_w9 : Hid (Blk w9 w1.heap.size #[.int .i64 hp, .int .i64 vp, .slice aP P.length cp] 26) := bP_z8.out.grow hb
  have bA_w9 : Hid (Blk w9 (w1.heap.size + 1) #[.slice (some ⟨ga, 0, none⟩) x.l.length ca, .int .i64 x.s, .int .i64 x.e, .string x.n] 29) := bA_z8.out.grow hb
  have RX_w9 : Hid (Pt w9 (some ⟨Mx, 0, none⟩) Q) := RX_z8.out.below hb
  have bX_w9 : Hid (Blk w9 w2.heap.size #[.int .i64 hp, .int .i64 vu, .slice (some ⟨Mx, 0, none⟩) Q.length cx] 26) := bX_z8.out.grow hb
  have RY_w9 : Hid (Pt w9 (some ⟨My, 0, none⟩) Q) := RY_z8.out.below hb
  have bY_w9 : Hid (Blk w9 w3.heap.size #[.int .i64 hp, .int .i64 vu, .slice (some ⟨My, 0, none⟩) Q.length cy] 26) := bY_z8.out.grow hb
  have DQ_w9 : Hid (Pt w9 aQ Pq) := DQ_z8.out.below hb
  have RQ_w9 : Hid (Reads w9 (some ⟨gl, 0, none⟩) q) := RQ_z8.out.below hb
  have bQ_w9 : Hid (Blk w9 w4.heap.size #[.int .i64 hq, .int .i64 vq, .slice aQ Pq.length cq] 26) := bQ_z8.out.grow hb
  have RU_w9 : Hid (Reads w9 bu Yu.l) := RU_z8.out.below hb
  have bU_w9 : Hid (Blk w9 w5.heap.size #[.slice bu Yu.l.length cu, .int .i64 Yu.s, .int .i64 Yu.e, .string Yu.n] 29) := bU_z8.out.grow hb
  have RV_w9 : Hid (Reads w9 bv Yu.l) := RV_z8.out.below hb
  have bV_w9 : Hid (Blk w9 w6.heap.size #[.slice bv Yu.l.length cv, .int .i64 Yu.s, .int .i64 Yu.e, .string Yu.n] 29) := bV_z8.out.grow hb
  have DR_w9 : Hid (Pt w9 aR R) := DR_z8.out.below hb
  have bR_w9 : Hid (Blk w9 w7.heap.size #[.int .i64 hr0, .int .i64 vr0, .slice aR R.length cr] 26) := bR_z8.out.grow hb
  have RS_w9 : Hid (Pt w9 (some ⟨Ms, 0, none⟩) SW) := RS_z8.out.below hb
  have RG_w9 : Hid (RdN w9 (some ⟨Mg, 0, none⟩) GO) := RG_z8.out.below hb
  have bS_w9 : Hid (Blk w9 w8.heap.size #[.int .i64 hr0, .int .i64 vs, .slice (some ⟨Ms, 0, none⟩) SW.length cs] 26) := bS_z8.out.grow hb
  clear B_z8 DP_z8 DX_z8 bP_z8 bA_z8 RX_z8 bX_z8 RY_z8 bY_z8 DQ_z8 RQ_z8 bQ_z8 RU_z8 bU_z8 RV_z8 bV_z8 DR_z8 bR_z8 RS_z8 RG_z8 bS_z8
  have RT_w9 : Hid (Pt w9 (some ⟨Mt, 0, none⟩) SW) := NRT.out
  clear NRT
  have RW_w9 : Hid (RdN w9 (some ⟨Mw, 0, none⟩) GO) := NRW.out
  clear NRW
  clear hb
  go_upto_region 12 with fail
  generalize hz : w9.alloc (.cells #[.int .i64 hr0, .int .i64 vs, .slice (some ⟨Mt, 0, none⟩) SW.length ct] 26) = z9
  have hbz : Below w9.heap.size w9 z9 := by rw [← hz]; exact Go.Joins.below_alloc1 w9 _
  have bT_z9 : Hid (Blk z9 w9.heap.size #[.int .i64 hr0, .int .i64 vs, .slice (some ⟨Mt, 0, none⟩) SW.length ct] 26) := by rw [← hz]; exact (Blk.new _ _ _)
  clear hz
  have B_z9 : Hid (Below w.heap.size w z9) := grow_on B_w9.out hbz
  have DP_z9 : Hid (Pt z9 aP P) := DP_w9.out.below hbz
  have DX_z9 : Hid (DAl z9 ga x) := DX_w9.out.below hbz
  have bP_z9 : Hid (Blk z9 w1.heap.size #[.int .i64 hp, .int .i64 vp, .slice aP P.length cp] 26) := bP_w9.out.grow hbz
  have bA_z9 : Hid (Blk z9 (w1.heap.size + 1) #[.slice (some ⟨ga, 0, none⟩) x.l.length ca, .int .i64 x.s, .int .i64 x.e, .string x.n] 29) := bA_w9.out.grow hbz
  have RX_z9 : Hid (Pt z9 (some ⟨Mx, 0, none⟩) Q) := RX_w9.out.below hbz
  have bX_z9 : Hid (Blk z9 w2.heap.size #[.int .i64 hp, .int .i64 vu, .slice (some ⟨Mx, 0, none⟩) Q.length cx] 26) := bX_w9.out.grow hbz
  have RY_z9 : Hid (Pt z9 (some ⟨My, 0, none⟩) Q) := RY_w9.out.below hbz
  have bY_z9 : Hid (Blk z9 w3.heap.size #[.int .i64 hp, .int .i64 vu, .slice (some ⟨My, 0, none⟩) Q.length cy] 26) := bY_w9.out.grow hbz
  have DQ_z9 : Hid (Pt z9 aQ Pq) := DQ_w9.out.below hbz
  have RQ_z9 : Hid (Reads z9 (some ⟨gl, 0, none⟩) q) := RQ_w9.out.below hbz
  have bQ_z9 : Hid (Blk z9 w4.heap.size #[.int .i64 hq, .int .i64 vq, .slice aQ Pq.length cq] 26) := bQ_w9.out.grow hbz
  have RU_z9 : Hid (Reads z9 bu Yu.l) := RU_w9.out.below hbz
  have bU_z9 : Hid (Blk z9 w5.heap.size #[.slice bu Yu.l.length cu, .int .i64 Yu.s, .int .i64 Yu.e, .string Yu.n] 29) := bU_w9.out.grow hbz
  have RV_z9 : Hid (Reads z9 bv Yu.l) := RV_w9.out.below hbz
  have bV_z9 : Hid (Blk z9 w6.heap.size #[.slice bv Yu.l.length cv, .int .i64 Yu.s, .int .i64 Yu.e, .string Yu.n] 29) := bV_w9.out.grow hbz
  have DR_z9 : Hid (Pt z9 aR R) := DR_w9.out.below hbz
  have bR_z9 : Hid (Blk z9 w7.heap.size #[.int .i64 hr0, .int .i64 vr0, .slice aR R.length cr] 26) := bR_w9.out.grow hbz
  have RS_z9 : Hid (Pt z9 (some ⟨Ms, 0, none⟩) SW) := RS_w9.out.below hbz
  have RG_z9 : Hid (RdN z9 (some ⟨Mg, 0, none⟩) GO) := RG_w9.out.below hbz
  have bS_z9 : Hid (Blk z9 w8.heap.size #[.int .i64 hr0, .int .i64 vs, .slice (some ⟨Ms, 0, none⟩) SW.length cs] 26) := bS_w9.out.grow hbz
  have RT_z9 : Hid (Pt z9 (some ⟨Mt, 0, none⟩) SW) := RT_w9.out.below hbz
  have RW_z9 : Hid (RdN z9 (some ⟨Mw, 0, none⟩) GO) := RW_w9.out.below hbz
  clear B_w9 DP_w9 DX_w9 bP_w9 bA_w9 RX_w9 bX_w9 RY_w9 bY_w9 DQ_w9 RQ_w9 bQ_w9 RU_w9 bU_w9 RV_w9 bV_w9 DR_w9 bR_w9 RS_w9 RG_w9 bS_w9 RT_w9 RW_w9
  clear hbz
  go_wp2_with fail
  refine (drawPartOk_any a len cap _ HL.out (bytes_up HB.out B_z9.out)).mono ?_
  rintro e w10 ⟨⟨ho, vo, aO, co, Po, io, no, rfl, hr, -, hno⟩, hb⟩
  have HNO : Hid (DrawA.I64 no) := hno
  clear hno
  have NDO : Hid (Pt w10 aO Po) := pt_of hr
  have B_w10 : Hid (Below w.heap.size w w10) := grow_on B_z9.out hb
  have DP_w10 : Hid (Pt w10 aP P) := DP_z9.out.below hb
  have DX_w10 : Hid (DAl w10 ga x) := DX_z9.out.below hb
  have bP_w10 : Hid (Blk w10 w1.heap.size #[.int .i64 hp, .int .i64 vp, .slice aP P.length cp] 26) := bP_z9.out.grow hb
  have bA_w10 : Hid (Blk w10 (w1.heap.size + 1) #[.slice (some ⟨ga, 0, none⟩) x.l.length ca, .int .i64 x.s, .int .i64 x.e, .string x.n] 29) := bA_z9.out.grow hb
  have RX_w10 : Hid (Pt w10 (some ⟨Mx, 0, none⟩) Q) := RX_z9.out.below hb
  have bX_w10 : Hid (Blk w10 w2.heap.size #[.int .i64 hp, .int .i64 vu, .slice (some ⟨Mx, 0, none⟩) Q.length cx] 26) := bX_z9.out.grow hb
  have RY_w10 : Hid (Pt w10 (some ⟨My, 0, none⟩) Q) := RY_z9.out.below hb
  have bY_w10 : Hid (Blk w10 w3.heap.size #[.int .i64 hp, .int .i64 vu, .slice (some ⟨My, 0, none⟩) Q.length cy] 26) := bY_z9.out.grow hb
  have DQ_w10 : Hid (Pt w10 aQ Pq) := DQ_z9.out.below hb
  have RQ_w10 : Hid (Reads w10 (some ⟨gl, 0, none⟩) q) := RQ_z9.out.below hb
  have bQ_w10 : Hid (Blk w10 w4.heap.size #[.int .i64 hq, .int .i64 vq, .slice aQ Pq.length cq] 26) := bQ_z9.out.grow hb
  have RU_w10 : Hid (Reads w10 bu Yu.l) := RU_z9.out.below hb
  have bU_w10 : Hid (Blk w10 w5.heap.size #[.slice bu Yu.l.length cu, .int .i64 Yu.s, .int .i64 Yu.e, .string Yu.n] 29) := bU_z9.out.grow hb
  have RV_w10 : Hid (Reads w10 bv Yu.l) := RV_z9.out.below hb
  have bV_w10 : Hid (Blk w10 w6.heap.size #[.slice bv Yu.l.length cv, .int .i64 Yu.s, .int .i64 Yu.e, .string Yu.n] 29) := bV_z9.out.grow hb
  have DR_w10 : Hid (Pt w10 aR R) := DR_z9.out.below hb
  have bR_w10 : Hid (Blk w10 w7.heap.size #[.int .i64 hr0, .int .i64 vr0, .slice aR R.length cr] 26) := bR_z9.out.grow hb
  have RS_w10 : Hid (Pt w10 (some ⟨Ms, 0, none⟩) SW) := RS_z9.out.below hb
  have RG_w10 : Hid (RdN w10 (some ⟨Mg, 0, none⟩) GO) := RG_z9.out.below hb
  have bS_w10 : Hid (Blk w10 w8.heap.size #[.int .i64 hr0, .int .i64 vs, .slice (some ⟨Ms, 0, none⟩) SW.length cs] 26) := bS_z9.out.grow hb
  have RT_w10 : Hid (Pt w10 (some ⟨Mt, 0, none⟩) SW) := RT_z9.out.below hb
  have RW_w10 : Hid (RdN w10 (some ⟨Mw, 0, none⟩) GO) := RW_z9.out.below hb
  have bT_w10 : Hid (Blk w10 w9.heap.size #[.int .i64 hr0, .int .i64 vs, .slice (some ⟨Mt, 0, none⟩) SW.length ct] 26) := bT_z9.out.grow hb
  clear B_z9 DP_z9 DX_z9 bP_z9 bA_z9 RX_z9 bX_z9 RY_z9 bY_z9 DQ_z9 RQ_z9 bQ_z9 RU_z9 bU_z9 RV_z9 bV_z9 DR_z9 bR_z9 RS_z9 RG_z9 bS_z9 RT_z9 RW_z9 bT_z9
  have DO_w10 : Hid (Pt w10 aO Po) := NDO.out
  clear NDO
  clear hb
  go_upto_region 13 with fail
  generalize hz : w10.alloc (.cells #[.int .i64 ho, .int .i64 vo, .slice aO Po.length co] 26) = z10
  have hbz : Below w10.heap.size w10 z10 := by rw [← hz]; exact Go.Joins.below_alloc1 w10 _
  have bO_z10 : Hid (Blk z10 w10.heap.size #[.int .i64 ho, .int .i64 vo, .slice aO Po.length co] 26) := by rw [← hz]; exact (Blk.new _ _ _)
  clear hz
  have B_z10 : Hid (Below w.heap.size w z10) := grow_on B_w10.out hbz
  have DP_z10 : Hid (Pt z10 aP P) := DP_w10.out.below hbz
  have DX_z10 : Hid (DAl z10 ga x) := DX_w10.out.below hbz
  have bP_z10 : Hid (Blk z10 w1.heap.size #[.int .i64 hp, .int .i64 vp, .slice aP P.length cp] 26) := bP_w10.out.grow hbz
  have bA_z10 : Hid (Blk z10 (w1.heap.size + 1) #[.slice (some ⟨ga, 0, none⟩) x.l.length ca, .int .i64 x.s, .int .i64 x.e, .string x.n] 29) := bA_w10.out.grow hbz
  have RX_z10 : Hid (Pt z10 (some ⟨Mx, 0, none⟩) Q) := RX_w10.out.below hbz
  have bX_z10 : Hid (Blk z10 w2.heap.size #[.int .i64 hp, .int .i64 vu, .slice (some ⟨Mx, 0, none⟩) Q.length cx] 26) := bX_w10.out.grow hbz
  have RY_z10 : Hid (Pt z10 (some ⟨My, 0, none⟩) Q) := RY_w10.out.below hbz
  have bY_z10 : Hid (Blk z10 w3.heap.size #[.int .i64 hp, .int .i64 vu, .slice (some ⟨My, 0, none⟩) Q.length cy] 26) := bY_w10.out.grow hbz
  have DQ_z10 : Hid (Pt z10 aQ Pq) := DQ_w10.out.below hbz
  have RQ_z10 : Hid (Reads z10 (some ⟨gl, 0, none⟩) q) := RQ_w10.out.below hbz
  have bQ_z10 : Hid (Blk z10 w4.heap.size #[.int .i64 hq, .int .i64 vq, .slice aQ Pq.length cq] 26) := bQ_w10.out.grow hbz
  have RU_z10 : Hid (Reads z10 bu Yu.l) := RU_w10.out.below hbz
  have bU_z10 : Hid (Blk z10 w5.heap.size #[.slice bu Yu.l.length cu, .int .i64 Yu.s, .int .i64 Yu.e, .string Yu.n] 29) := bU_w10.out.grow hbz
  have RV_z10 : Hid (Reads z10 bv Yu.l) := RV_w10.out.below hbz
  have bV_z10 : Hid (Blk z10 w6.heap.size #[.slice bv Yu.l.length cv, .int .i64 Yu.s, .int .i64 Yu.e, .string Yu.n] 29) := bV_w10.out.grow hbz
  have DR_z10 : Hid (Pt z10 aR R) := DR_w10.out.below hbz
  have bR_z10 : Hid (Blk z10 w7.heap.size #[.int .i64 hr0, .int .i64 vr0, .slice aR R.length cr] 26) := bR_w10.out.grow hbz
  have RS_z10 : Hid (Pt z10 (some ⟨Ms, 0, none⟩) SW) := RS_w10.out.below hbz
  have RG_z10 : Hid (RdN z10 (some ⟨Mg, 0, none⟩) GO) := RG_w10.out.below hbz
  have bS_z10 : Hid (Blk z10 w8.heap.size #[.int .i64 hr0, .int .i64 vs, .slice (some ⟨Ms, 0, none⟩) SW.length cs] 26) := bS_w10.out.grow hbz
  have RT_z10 : Hid (Pt z10 (some ⟨Mt, 0, none⟩) SW) := RT_w10.out.below hbz
  have RW_z10 : Hid (RdN z10 (some ⟨Mw, 0, none⟩) GO) := RW_w10.out.below hbz
  have bT_z10 : Hid (Blk z10 w9.heap.size #[.int .i64 hr0, .int .i64 vs, .slice (some ⟨Mt, 0, none⟩) SW.length ct] 26) := bT_w10.out.grow hbz
  have DO_z10 : Hid (Pt z10 aO Po) := DO_w10.out.below hbz
  clear B_w10 DP_w10 DX_w10 bP_w10 bA_w10 RX_w10 bX_w10 RY_w10 bY_w10 DQ_w10 RQ_w10 bQ_w10 RU_w10 bU_w10 RV_w10 bV_w10 DR_w10 bR_w10 RS_w10 RG_w10 bS_w10 RT_w10 RW_w10 bT_w10 DO_w10
  clear hbz
  go_wp2_with fail
  refine (drawSameP_any a len cap _ HL.out (bytes_up HB.out B_z10.out)).mono ?_
  rintro e w11 ⟨⟨hc, vc, aC, cc, Pc, hd, vd, aD, cd', Pd, rfl, hr, hr'⟩, hb⟩
  have NDC : Hid (Pt w11 aC Pc) := pt_of hr
  have NDD : Hid (Pt w11 aD Pd) := pt_of hr'
  have B_w11 : Hid (Below w.heap.size w w11) := grow_on B_z10.out hb
  have DP_w11 : Hid (Pt w11 aP P) := DP_z10.out.below hb
  have DX_w11 : Hid (DAl w11 ga x) := DX_z10.out.below hb
  have bP_w11 : Hid (Blk w11 w1.heap.size #[.int .i64 hp, .int .i64 vp, .slice aP P.length cp] 26) := bP_z10.out.grow hb
  have bA_w11 : Hid (Blk w11 (w1.heap.size + 1) #[.slice (some ⟨ga, 0, none⟩) x.l.length ca, .int .i64 x.s, .int .i64 x.e, .string x.n] 29) := bA_z10.out.grow hb
  have RX_w11 : Hid (Pt w11 (some ⟨Mx, 0, none⟩) Q) := RX_z10.out.below hb
  have bX_w11 : Hid (Blk w11 w2.heap.size #[.int .i64 hp, .int .i64 vu, .slice (some ⟨Mx, 0, none⟩) Q.length cx] 26) := bX_z10.out.grow hb
  have RY_w11 : Hid (Pt w11 (some ⟨My, 0, none⟩) Q) := RY_z10.out.below hb
  have bY_w11 : Hid (Blk w11 w3.heap.size #[.int .i64 hp, .int .i64 vu, .slice (some ⟨My, 0, none⟩) Q.length cy] 26) := bY_z10.out.grow hb
  have DQ_w11 : Hid (Pt w11 aQ Pq) := DQ_z10.out.below hb
  have RQ_w11 : Hid (Reads w11 (some ⟨gl, 0, none⟩) q) := RQ_z10.out.below hb
  have bQ_w11 : Hid (Blk w11 w4.heap.size #[.int .i64 hq, .int .i64 vq, .slice aQ Pq.length cq] 26) := bQ_z10.out.grow hb
  have RU_w11 : Hid (Reads w11 bu Yu.l) := RU_z10.out.below hb
  have bU_w11 : Hid (Blk w11 w5.heap.size #[.slice bu Yu.l.length cu, .int .i64 Yu.s, .int .i64 Yu.e, .string Yu.n] 29) := bU_z10.out.grow hb
  have RV_w11 : Hid (Reads w11 bv Yu.l) := RV_z10.out.below hb
  have bV_w11 : Hid (Blk w11 w6.heap.size #[.slice bv Yu.l.length cv, .int .i64 Yu.s, .int .i64 Yu.e, .string Yu.n] 29) := bV_z10.out.grow hb
  have DR_w11 : Hid (Pt w11 aR R) := DR_z10.out.below hb
  have bR_w11 : Hid (Blk w11 w7.heap.size #[.int .i64 hr0, .int .i64 vr0, .slice aR R.length cr] 26) := bR_z10.out.grow hb
  have RS_w11 : Hid (Pt w11 (some ⟨Ms, 0, none⟩) SW) := RS_z10.out.below hb
  have RG_w11 : Hid (RdN w11 (some ⟨Mg, 0, none⟩) GO) := RG_z10.out.below hb
  have bS_w11 : Hid (Blk w11 w8.heap.size #[.int .i64 hr0, .int .i64 vs, .slice (some ⟨Ms, 0, none⟩) SW.length cs] 26) := bS_z10.out.grow hb
  have RT_w11 : Hid (Pt w11 (some ⟨Mt, 0, none⟩) SW) := RT_z10.out.below hb
  have RW_w11 : Hid (RdN w11 (some ⟨Mw, 0, none⟩) GO) := RW_z10.out.below hb
  have bT_w11 : Hid (Blk w11 w9.heap.size #[.int .i64 hr0, .int .i64 vs, .slice (some ⟨Mt, 0, none⟩) SW.length ct] 26) := bT_z10.out.grow hb
  have DO_w11 : Hid (Pt w11 aO Po) := DO_z10.out.below hb
  have bO_w11 : Hid (Blk w11 w10.heap.size #[.int .i64 ho, .int .i64 vo, .slice aO Po.length co] 26) := bO_z10.out.grow hb
  clear B_z10 DP_z10 DX_z10 bP_z10 bA_z10 RX_z10 bX_z10 RY_z10 bY_z10 DQ_z10 RQ_z10 bQ_z10 RU_z10 bU_z10 RV_z10 bV_z10 DR_z10 bR_z10 RS_z10 RG_z10 bS_z10 RT_z10 RW_z10 bT_z10 DO_z10 bO_z10
  have DC_w11 : Hid (Pt w11 aC Pc) := NDC.out
  clear NDC
  have DD_w11 : Hid (Pt w11 aD Pd) := NDD.out
  clear NDD
  clear hb
  go_upto_region 14 with fail
  generalize hz : (w11.alloc (.cells #[.int .i64 hc, .int .i64 vc, .slice aC Pc.length cc] 26)).alloc (.cells #[.int .i64 hd, .int .i64 vd, .slice aD Pd.length cd'] 26) = z11
  have hbz : Below w11.heap.size w11 z11 := by rw [← hz]; exact Go.Joins.below_alloc2 w11 _ _
  have bC_z11 : Hid (Blk z11 w11.heap.size #[.int .i64 hc, .int .i64 vc, .slice aC Pc.length cc] 26) := by rw [← hz]; exact (Blk.new _ _ _).alloc _
  have bD_z11 : Hid (Blk z11 (w11.heap.size + 1) #[.int .i64 hd, .int .i64 vd, .slice aD Pd.length cd'] 26) := by rw [← hz]; exact Blk.new_at (by simp)
  clear hz
  have B_z11 : Hid (Below w.heap.size w z11) := grow_on B_w11.out hbz
  have DP_z11 : Hid (Pt z11 aP P) := DP_w11.out.below hbz
  have DX_z11 : Hid (DAl z11 ga x) := DX_w11.out.below hbz
  have bP_z11 : Hid (Blk z11 w1.heap.size #[.int .i64 hp, .int .i64 vp, .slice aP P.length cp] 26) := bP_w11.out.grow hbz
  have bA_z11 : Hid (Blk z11 (w1.heap.size + 1) #[.slice (some ⟨ga, 0, none⟩) x.l.length ca, .int .i64 x.s, .int .i64 x.e, .string x.n] 29) := bA_w11.out.grow hbz
  have RX_z11 : Hid (Pt z11 (some ⟨Mx, 0, none⟩) Q) := RX_w11.out.below hbz
  have bX_z11 : Hid (Blk z11 w2.heap.size #[.int .i64 hp, .int .i64 vu, .slice (some ⟨Mx, 0, none⟩) Q.length cx] 26) := bX_w11.out.grow hbz
  have RY_z11 : Hid (Pt z11 (some ⟨My, 0, none⟩) Q) := RY_w11.out.below hbz
  have bY_z11 : Hid (Blk z11 w3.heap.size #[.int .i64 hp, .int .i64 vu, .slice (some ⟨My, 0, none⟩) Q.length cy] 26) := bY_w11.out.grow hbz
  have DQ_z11 : Hid (Pt z11 aQ Pq) := DQ_w11.out.below hbz
  have RQ_z11 : Hid (Reads z11 (some ⟨gl, 0, none⟩) q) := RQ_w11.out.below hbz
  have bQ_z11 : Hid (Blk z11 w4.heap.size #[.int .i64 hq, .int .i64 vq, .slice aQ Pq.length cq] 26) := bQ_w11.out.grow hbz
  have RU_z11 : Hid (Reads z11 bu Yu.l) := RU_w11.out.below hbz
  have bU_z11 : Hid (Blk z11 w5.heap.size #[.slice bu Yu.l.length cu, .int .i64 Yu.s, .int .i64 Yu.e, .string Yu.n] 29) := bU_w11.out.grow hbz
  have RV_z11 : Hid (Reads z11 bv Yu.l) := RV_w11.out.below hbz
  have bV_z11 : Hid (Blk z11 w6.heap.size #[.slice bv Yu.l.length cv, .int .i64 Yu.s, .int .i64 Yu.e, .string Yu.n] 29) := bV_w11.out.grow hbz
  have DR_z11 : Hid (Pt z11 aR R) := DR_w11.out.below hbz
  have bR_z11 : Hid (Blk z11 w7.heap.size #[.int .i64 hr0, .int .i64 vr0, .slice aR R.length cr] 26) := bR_w11.out.grow hbz
  have RS_z11 : Hid (Pt z11 (some ⟨Ms, 0, none⟩) SW) := RS_w11.out.below hbz
  have RG_z11 : Hid (RdN z11 (some ⟨Mg, 0, none⟩) GO) := RG_w11.out.below hbz
  have bS_z11 : Hid (Blk z11 w8.heap.size #[.int .i64 hr0, .int .i64 vs, .slice (some ⟨Ms, 0, none⟩) SW.length cs] 26) := bS_w11.out.grow hbz
  have RT_z11 : Hid (Pt z11 (some ⟨Mt, 0, none⟩) SW) := RT_w11.out.below hbz
  have RW_z11 : Hid (RdN z11 (some ⟨Mw, 0, none⟩) GO) := RW_w11.out.below hbz
  have bT_z11 : Hid (Blk z11 w9.heap.size #[.int .i64 hr0, .int .i64 vs, .slice (some ⟨Mt, 0, none⟩) SW.length ct] 26) := bT_w11.out.grow hbz
  have DO_z11 : Hid (Pt z11 aO Po) := DO_w11.out.below hbz
  have bO_z11 : Hid (Blk z11 w10.heap.size #[.int .i64 ho, .int .i64 vo, .slice aO Po.length co] 26) := bO_w11.out.grow hbz
  have DC_z11 : Hid (Pt z11 aC Pc) := DC_w11.out.below hbz
  have DD_z11 : Hid (Pt z11 aD Pd) := DD_w11.out.below hbz
  clear B_w11 DP_w11 DX_w11 bP_w11 bA_w11 RX_w11 bX_w11 RY_w11 bY_w11 DQ_w11 RQ_w11 bQ_w11 RU_w11 bU_w11 RV_w11 bV_w11 DR_w11 bR_w11 RS_w11 RG_w11 bS_w11 RT_w11 RW_w11 bT_w11 DO_w11 bO_w11 DC_w11 DD_w11
  clear hbz
  have hne := Grown.some z11
  have cbX0 : ∀ y : Grown z11, y.out.cell? ⟨w2.heap.size, 0, none⟩ = some (.int .i64 hp) := fun y => y.cell bX_z11.out.lt (bX_z11.out.cell 0)
  have cbX1 : ∀ y : Grown z11, y.out.cell? ⟨w2.heap.size, 1, none⟩ = some (.int .i64 vu) := fun y => y.cell bX_z11.out.lt (bX_z11.out.cell 1)
  have cbX2 : ∀ y : Grown z11, y.out.cell? ⟨w2.heap.size, 2, none⟩ = some (.slice (some ⟨Mx, 0, none⟩) Q.length cx) := fun y => y.cell bX_z11.out.lt (bX_z11.out.cell 2)
  have cbY0 : ∀ y : Grown z11, y.out.cell? ⟨w3.heap.size, 0, none⟩ = some (.int .i64 hp) := fun y => y.cell bY_z11.out.lt (bY_z11.out.cell 0)
  have cbY1 : ∀ y : Grown z11, y.out.cell? ⟨w3.heap.size, 1, none⟩ = some (.int .i64 vu) := fun y => y.cell bY_z11.out.lt (bY_z11.out.cell 1)
  have cbY2 : ∀ y : Grown z11, y.out.cell? ⟨w3.heap.size, 2, none⟩ = some (.slice (some ⟨My, 0, none⟩) Q.length cy) := fun y => y.cell bY_z11.out.lt (bY_z11.out.cell 2)
  have cbU0 : ∀ y : Grown z11, y.out.cell? ⟨w5.heap.size, 0, none⟩ = some (.slice bu Yu.l.length cu) := fun y => y.cell bU_z11.out.lt (bU_z11.out.cell 0)
  have cbU1 : ∀ y : Grown z11, y.out.cell? ⟨w5.heap.size, 1, none⟩ = some (.int .i64 Yu.s) := fun y => y.cell bU_z11.out.lt (bU_z11.out.cell 1)
  have cbU2 : ∀ y : Grown z11, y.out.cell? ⟨w5.heap.size, 2, none⟩ = some (.int .i64 Yu.e) := fun y => y.cell bU_z11.out.lt (bU_z11.out.cell 2)
  have cbU3 : ∀ y : Grown z11, y.out.cell? ⟨w5.heap.size, 3, none⟩ = some (.string Yu.n) := fun y => y.cell bU_z11.out.lt (bU_z11.out.cell 3)
  have cbV0 : ∀ y : Grown z11, y.out.cell? ⟨w6.heap.size, 0, none⟩ = some (.slice bv Yu.l.length cv) := fun y => y.cell bV_z11.out.lt (bV_z11.out.cell 0)
  have cbV1 : ∀ y : Grown z11, y.out.cell? ⟨w6.heap.size, 1, none⟩ = some (.int .i64 Yu.s) := fun y => y.cell bV_z11.out.lt (bV_z11.out.cell 1)
  have cbV2 : ∀ y : Grown z11, y.out.cell? ⟨w6.heap.size, 2, none⟩ = some (.int .i64 Yu.e) := fun y => y.cell bV_z11.out.lt (bV_z11.out.cell 2)
  have cbV3 : ∀ y : Grown z11, y.out.cell? ⟨w6.heap.size, 3, none⟩ = some (.string Yu.n) := fun y => y.cell bV_z11.out.lt (bV_z11.out.cell 3)
  have cbS0 : ∀ y : Grown z11, y.out.cell? ⟨w8.heap.size, 0, none⟩ = some (.int .i64 hr0) := fun y => y.cell bS_z11.out.lt (bS_z11.out.cell 0)
  have cbS1 : ∀ y : Grown z11, y.out.cell? ⟨w8.heap.size, 1, none⟩ = some (.int .i64 vs) := fun y => y.cell bS_z11.out.lt (bS_z11.out.cell 1)
  have cbS2 : ∀ y : Grown z11, y.out.cell? ⟨w8.heap.size, 2, none⟩ = some (.slice (some ⟨Ms, 0, none⟩) SW.length cs) := fun y => y.cell bS_z11.out.lt (bS_z11.out.cell 2)
  have cbT0 : ∀ y : Grown z11, y.out.cell? ⟨w9.heap.size, 0, none⟩ = some (.int .i64 hr0) := fun y => y.cell bT_z11.out.lt (bT_z11.out.cell 0)
  have cbT1 : ∀ y : Grown z11, y.out.cell? ⟨w9.heap.size, 1, none⟩ = some (.int .i64 vs) := fun y => y.cell bT_z11.out.lt (bT_z11.out.cell 1)
  have cbT2 : ∀ y : Grown z11, y.out.cell? ⟨w9.heap.size, 2, none⟩ = some (.slice (some ⟨Mt, 0, none⟩) SW.length ct) := fun y => y.cell bT_z11.out.lt (bT_z11.out.cell 2)
  have cbO0 : ∀ y : Grown z11, y.out.cell? ⟨w10.heap.size, 0, none⟩ = some (.int .i64 ho) := fun y => y.cell bO_z11.out.lt (bO_z11.out.cell 0)
  have cbO1 : ∀ y : Grown z11, y.out.cell? ⟨w10.heap.size, 1, none⟩ = some (.int .i64 vo) := fun y => y.cell bO_z11.out.lt (bO_z11.out.cell 1)
  have cbO2 : ∀ y : Grown z11, y.out.cell? ⟨w10.heap.size, 2, none⟩ = some (.slice aO Po.length co) := fun y => y.cell bO_z11.out.lt (bO_z11.out.cell 2)
  have cbC0 : ∀ y : Grown z11, y.out.cell? ⟨w11.heap.size, 0, none⟩ = some (.int .i64 hc) := fun y => y.cell bC_z11.out.lt (bC_z11.out.cell 0)
  have cbC1 : ∀ y : Grown z11, y.out.cell? ⟨w11.heap.size, 1, none⟩ = some (.int .i64 vc) := fun y => y.cell bC_z11.out.lt (bC_z11.out.cell 1)
  have cbC2 : ∀ y : Grown z11, y.out.cell? ⟨w11.heap.size, 2, none⟩ = some (.slice aC Pc.length cc) := fun y => y.cell bC_z11.out.lt (bC_z11.out.cell 2)
  have cbD0 : ∀ y : Grown z11, y.out.cell? ⟨(w11.heap.size + 1), 0, none⟩ = some (.int .i64 hd) := fun y => y.cell bD_z11.out.lt (bD_z11.out.cell 0)
  have cbD1 : ∀ y : Grown z11, y.out.cell? ⟨(w11.heap.size + 1), 1, none⟩ = some (.int .i64 vd) := fun y => y.cell bD_z11.out.lt (bD_z11.out.cell 1)
  have cbD2 : ∀ y : Grown z11, y.out.cell? ⟨(w11.heap.size + 1), 2, none⟩ = some (.slice aD Pd.length cd') := fun y => y.cell bD_z11.out.lt (bD_z11.out.cell 2)
  have S1 : ∀ y : Grown z11, Hid (Calls Tryz.prog 19 #[.agg #[.int .i64 hp, .int .i64 vu, .slice (some ⟨Mx, 0, none⟩) Q.length cx], .agg #[.int .i64 hp, .int .i64 vu, .slice (some ⟨My, 0, none⟩) Q.length cy]] y.out fun e w' => e = .returned (.bool true) ∧ Below y.out.heap.size y.out w') := fun y => (implSameP_any hp vu hp vu _ _ _ _ Q Q _ (RX_z11.out.1.rd.below stays_rd y.bel) (RY_z11.out.1.rd.below stays_rd y.bel) (by have := RX_z11.out.2.2; omega) (by have := RY_z11.out.2.2; omega) RX_z11.out.small RY_z11.out.small).mono fun e w' h => ⟨h.1.trans (retB (same_part _ _ _)), h.2⟩
  have S2 : ∀ y : Grown z11, Hid (Calls Tryz.prog 19 #[.agg #[.int .i64 hr0, .int .i64 vs, .slice (some ⟨Ms, 0, none⟩) SW.length cs], .agg #[.int .i64 hr0, .int .i64 vs, .slice (some ⟨Mt, 0, none⟩) SW.length ct]] y.out fun e w' => e = .returned (.bool true) ∧ Below y.out.heap.size y.out w') := fun y => (implSameP_any hr0 vs hr0 vs _ _ _ _ SW SW _ (RS_z11.out.1.rd.below stays_rd y.bel) (RT_z11.out.1.rd.below stays_rd y.bel) (by have := RS_z11.out.2.2; omega) (by have := RT_z11.out.2.2; omega) RS_z11.out.small RT_z11.out.small).mono fun e w' h => ⟨h.1.trans (retB (same_part _ _ _)), h.2⟩
  have S3 : ∀ y : Grown z11, Hid (Calls Tryz.prog 19 #[.agg #[.int .i64 hc, .int .i64 vc, .slice aC Pc.length cc], .agg #[.int .i64 hd, .int .i64 vd, .slice aD Pd.length cd']] y.out fun e w' => e = .returned (.bool (samePB hc vc Pc hd vd Pd)) ∧ Below y.out.heap.size y.out w') := fun y => implSameP_any hc vc hd vd _ _ _ _ Pc Pd _ (DC_z11.out.1.rd.below stays_rd y.bel) (DD_z11.out.1.rd.below stays_rd y.bel) (by have := DC_z11.out.2.2; omega) (by have := DD_z11.out.2.2; omega) DC_z11.out.small DD_z11.out.small
  have S4 : ∀ y : Grown z11, Hid (Calls Tryz.prog 24 #[.agg #[.int .i64 hc, .int .i64 vc, .slice aC Pc.length cc], .agg #[.int .i64 hd, .int .i64 vd, .slice aD Pd.length cd']] y.out fun e w' => e = .returned (.bool (samePB hc vc Pc hd vd Pd)) ∧ Below y.out.heap.size y.out w') := fun y => specSameP_any hc vc hd vd _ _ _ _ Pc Pd _ (DC_z11.out.1.rd.below stays_rd y.bel) (DD_z11.out.1.rd.below stays_rd y.bel) (by have := DC_z11.out.2.2; omega) (by have := DD_z11.out.2.2; omega) DC_z11.out.small DD_z11.out.small
  have O1 : ∀ y : Grown z11, Hid (Calls Tryz.prog 22 #[.agg #[.int .i64 ho, .int .i64 vo, .slice aO Po.length co], .int .i64 io, .int .i64 no] y.out fun e w' => e = .returned (.bool (partOkB Po ho vo io no)) ∧ Below y.out.heap.size y.out w') := fun y => implPartOk_any ho vo io no _ _ Po _ (DO_z11.out.1.rd.below stays_rd y.bel) (by have := DO_z11.out.2.2; omega) DO_z11.out.fits DO_z11.out.small HNO.out
  have O2 : ∀ y : Grown z11, Hid (Calls Tryz.prog 23 #[.agg #[.int .i64 ho, .int .i64 vo, .slice aO Po.length co], .int .i64 io, .int .i64 no] y.out fun e w' => e = .returned (.bool (partOkB Po ho vo io no)) ∧ Below y.out.heap.size y.out w') := fun y => specPartOk_any ho vo io no _ _ Po _ (DO_z11.out.1.rd.below stays_rd y.bel) (by have := DO_z11.out.2.2; omega) DO_z11.out.fits DO_z11.out.small HNO.out
  have A1 : ∀ y : Grown z11, Hid (Calls Tryz.prog 20 #[.agg #[.slice bu Yu.l.length cu, .int .i64 Yu.s, .int .i64 Yu.e, .string Yu.n], .agg #[.slice bv Yu.l.length cv, .int .i64 Yu.s, .int .i64 Yu.e, .string Yu.n]] y.out fun e w' => e = .returned (.bool true) ∧ Below y.out.heap.size y.out w') := fun y => (implSameA_any _ _ _ _ _ _ _ _ _ _ _ _ y.out (RU_z11.out.below y.bel) (RV_z11.out.below y.bel) (fine_max EU.out.2.2.1) (fine_max EU.out.2.2.1)).mono fun e w' h => ⟨h.1.trans (retB (Alm.same_self _ _ _ _)), h.2⟩
  have G1 : ∀ y : Grown z11, Hid (Calls Tryz.prog 21 #[.slice (some ⟨Mg, 0, none⟩) GO.length cg, .slice (some ⟨Mw, 0, none⟩) GO.length cw] y.out fun e w' => e = .returned (.bool true) ∧ Below y.out.heap.size y.out w') := fun y => (sameList_any _ _ _ _ GO GO _ (RG_z11.out.rd.below y.bel) (RW_z11.out.rd.below y.bel) (by have := FG.out.2.2.2; omega) (by have := FG.out.2.2.2; omega) (finesP FG.out.1) (finesP FG.out.1)).mono fun e w' h => ⟨h.1.trans (retB (same_refl _)), h.2⟩
  have t1 : (nu != nu) = false := by simp
  have t2 : (ok != ok) = false := by simp
  have t3 : (partOkB Po ho vo io no != partOkB Po ho vo io no) = false := by simp
  have t4 : (samePB hc vc Pc hd vd Pd != samePB hc vc Pc hd vd Pd) = false := by simp
  refine wp_over (z := z11) (by kernel_rfl) (by kernel_rfl) (Below.refl _ _) ?_
  repeat (go_big_quiet_step (first | (go_at_call 19; (first | with_reducible exact call_over (S1 _).out | with_reducible exact call_over (S2 _).out | with_reducible exact call_over (S3 _).out)) | (go_at_call 24; (first | with_reducible exact call_over (S4 _).out)) | (go_at_call 22; (first | with_reducible exact call_over (O1 _).out)) | (go_at_call 23; (first | with_reducible exact call_over (O2 _).out)) | (go_at_call 20; (first | with_reducible exact call_over (A1 _).out)) | (go_at_call 21; (first | with_reducible exact call_over (G1 _).out))))
  refine wpQuiet_nil ?_
  intro zz hzz
  have hb := over_bel hzz
  clear hzz hne cbX0 cbX1 cbX2 cbY0 cbY1 cbY2 cbU0 cbU1 cbU2 cbU3 cbV0 cbV1 cbV2 cbV3 cbS0 cbS1 cbS2 cbT0 cbT1 cbT2 cbO0 cbO1 cbO2 cbC0 cbC1 cbC2 cbD0 cbD1 cbD2 S1 S2 S3 S4 O1 O2 A1 G1 t1 t2 t3 t4
  clear bY_z11
  clear bQ_z11
  clear bU_z11
  clear bV_z11
  clear bT_z11
  clear bO_z11
  clear bC_z11
  clear bD_z11
  clear RY_z11
  clear DQ_z11
  clear RQ_z11
  clear RU_z11
  clear RV_z11
  clear RT_z11
  clear RW_z11
  clear DO_z11
  clear DC_z11
  clear DD_z11
  clear EU HNO
  have B_zz : Hid (Below w.heap.size w zz) := grow_on B_z11.out hb
  have DP_zz : Hid (Pt zz aP P) := DP_z11.out.below hb
  have DX_zz : Hid (DAl zz ga x) := DX_z11.out.below hb
  have bP_zz : Hid (Blk zz w1.heap.size #[.int .i64 hp, .int .i64 vp, .slice aP P.length cp] 26) := bP_z11.out.grow hb
  have bA_zz : Hid (Blk zz (w1.heap.size + 1) #[.slice (some ⟨ga, 0, none⟩) x.l.length ca, .int .i64 x.s, .int .i64 x.e, .string x.n] 29) := bA_z11.out.grow hb
  have RX_zz : Hid (Pt zz (some ⟨Mx, 0, none⟩) Q) := RX_z11.out.below hb
  have bX_zz : Hid (Blk zz w2.heap.size #[.int .i64 hp, .int .i64 vu, .slice (some ⟨Mx, 0, none⟩) Q.length cx] 26) := bX_z11.out.grow hb
  have DR_zz : Hid (Pt zz aR R) := DR_z11.out.below hb
  have bR_zz : Hid (Blk zz w7.heap.size #[.int .i64 hr0, .int .i64 vr0, .slice aR R.length cr] 26) := bR_z11.out.grow hb
  have RS_zz : Hid (Pt zz (some ⟨Ms, 0, none⟩) SW) := RS_z11.out.below hb
  have RG_zz : Hid (RdN zz (some ⟨Mg, 0, none⟩) GO) := RG_z11.out.below hb
  have bS_zz : Hid (Blk zz w8.heap.size #[.int .i64 hr0, .int .i64 vs, .slice (some ⟨Ms, 0, none⟩) SW.length cs] 26) := bS_z11.out.grow hb
  clear B_z11 DP_z11 DX_z11 bP_z11 bA_z11 RX_z11 bX_z11 DR_z11 bR_z11 RS_z11 RG_z11 bS_z11
  clear hb
  go_upto_region 16 with fail
  rcases find_put P x with ⟨h1, h2, h3⟩ | ⟨y, h1, h2, h3⟩
  ·
    have en : nu = true := EQ.out.2.1.symm.trans h2
    subst en
    have EF : Hid (findD P x.l = zeroA ∧ (findB P x.l).isSome = false ∧ findD Q x.l = x ∧ (findB Q x.l).isSome = true) := by
      have h4 : findB Q x.l = some x := by rw [← EQ.out.1]; exact h3
      exact ⟨by unfold findD; rw [h1]; rfl, by rw [h1]; rfl, by unfold findD; rw [h4]; rfl, by rw [h4]; rfl⟩
    clear h1 h2 h3
    obtain ⟨yo, hyo⟩ : ∃ yo, zeroA = yo := ⟨_, rfl⟩
    rw [hyo] at EF
    clear hyo
    have cbP0 : zz.cell? ⟨w1.heap.size, 0, none⟩ = some (.int .i64 hp) := bP_zz.out.cell 0
    have cbP1 : zz.cell? ⟨w1.heap.size, 1, none⟩ = some (.int .i64 vp) := bP_zz.out.cell 1
    have cbP2 : zz.cell? ⟨w1.heap.size, 2, none⟩ = some (.slice aP P.length cp) := bP_zz.out.cell 2
    have cbA0 : zz.cell? ⟨(w1.heap.size + 1), 0, none⟩ = some (.slice (some ⟨ga, 0, none⟩) x.l.length ca) := bA_zz.out.cell 0
    have cbA1 : zz.cell? ⟨(w1.heap.size + 1), 1, none⟩ = some (.int .i64 x.s) := bA_zz.out.cell 1
    have cbA2 : zz.cell? ⟨(w1.heap.size + 1), 2, none⟩ = some (.int .i64 x.e) := bA_zz.out.cell 2
    have cbA3 : zz.cell? ⟨(w1.heap.size + 1), 3, none⟩ = some (.string x.n) := bA_zz.out.cell 3
    go_wp2_with fail
    refine (implFindR hp vp aP _ cp ca P x.l _ DP_zz.out DX_zz.out.1 FP.out.2.2.1.2 FP.out.2.2.1.1.fits EF.out.1 EF.out.2.1).mono ?_
    rintro e w12 ⟨⟨bo, co', rfl, hr⟩, hb⟩
    clear cbP0 cbP1 cbP2 cbA0 cbA1 cbA2 cbA3
    clear hr
    have B_w12 : Hid (Below w.heap.size w w12) := grow_on B_zz.out hb
    have DP_w12 : Hid (Pt w12 aP P) := DP_zz.out.below hb
    have DX_w12 : Hid (DAl w12 ga x) := DX_zz.out.below hb
    have bP_w12 : Hid (Blk w12 w1.heap.size #[.int .i64 hp, .int .i64 vp, .slice aP P.length cp] 26) := bP_zz.out.grow hb
    have bA_w12 : Hid (Blk w12 (w1.heap.size + 1) #[.slice (some ⟨ga, 0, none⟩) x.l.length ca, .int .i64 x.s, .int .i64 x.e, .string x.n] 29) := bA_zz.out.grow hb
    have RX_w12 : Hid (Pt w12 (some ⟨Mx, 0, none⟩) Q) := RX_zz.out.below hb
    have bX_w12 : Hid (Blk w12 w2.heap.size #[.int .i64 hp, .int .i64 vu, .slice (some ⟨Mx, 0, none⟩) Q.length cx] 26) := bX_zz.out.grow hb
    have DR_w12 : Hid (Pt w12 aR R) := DR_zz.out.below hb
    have bR_w12 : Hid (Blk w12 w7.heap.size #[.int .i64 hr0, .int .i64 vr0, .slice aR R.length cr] 26) := bR_zz.out.grow hb
    have RS_w12 : Hid (Pt w12 (some ⟨Ms, 0, none⟩) SW) := RS_zz.out.below hb
    have RG_w12 : Hid (RdN w12 (some ⟨Mg, 0, none⟩) GO) := RG_zz.out.below hb
    have bS_w12 : Hid (Blk w12 w8.heap.size #[.int .i64 hr0, .int .i64 vs, .slice (some ⟨Ms, 0, none⟩) SW.length cs] 26) := bS_zz.out.grow hb
    clear B_zz DP_zz DX_zz bP_zz bA_zz RX_zz bX_zz DR_zz bR_zz RS_zz RG_zz bS_zz
    clear hb
    go_upto_region 17 with fail
    generalize hz : w12.alloc (.cells #[.slice bo yo.l.length co', .int .i64 yo.s, .int .i64 yo.e, .string yo.n] 29) = z12
    have hbz : Below w12.heap.size w12 z12 := by rw [← hz]; exact Go.Joins.below_alloc1 w12 _
    have bOld_z12 : Hid (Blk z12 w12.heap.size #[.slice bo yo.l.length co', .int .i64 yo.s, .int .i64 yo.e, .string yo.n] 29) := by rw [← hz]; exact (Blk.new _ _ _)
    clear hz
    have B_z12 : Hid (Below w.heap.size w z12) := grow_on B_w12.out hbz
    have DP_z12 : Hid (Pt z12 aP P) := DP_w12.out.below hbz
    have DX_z12 : Hid (DAl z12 ga x) := DX_w12.out.below hbz
    have bP_z12 : Hid (Blk z12 w1.heap.size #[.int .i64 hp, .int .i64 vp, .slice aP P.length cp] 26) := bP_w12.out.grow hbz
    have bA_z12 : Hid (Blk z12 (w1.heap.size + 1) #[.slice (some ⟨ga, 0, none⟩) x.l.length ca, .int .i64 x.s, .int .i64 x.e, .string x.n] 29) := bA_w12.out.grow hbz
    have RX_z12 : Hid (Pt z12 (some ⟨Mx, 0, none⟩) Q) := RX_w12.out.below hbz
    have bX_z12 : Hid (Blk z12 w2.heap.size #[.int .i64 hp, .int .i64 vu, .slice (some ⟨Mx, 0, none⟩) Q.length cx] 26) := bX_w12.out.grow hbz
    have DR_z12 : Hid (Pt z12 aR R) := DR_w12.out.below hbz
    have bR_z12 : Hid (Blk z12 w7.heap.size #[.int .i64 hr0, .int .i64 vr0, .slice aR R.length cr] 26) := bR_w12.out.grow hbz
    have RS_z12 : Hid (Pt z12 (some ⟨Ms, 0, none⟩) SW) := RS_w12.out.below hbz
    have RG_z12 : Hid (RdN z12 (some ⟨Mg, 0, none⟩) GO) := RG_w12.out.below hbz
    have bS_z12 : Hid (Blk z12 w8.heap.size #[.int .i64 hr0, .int .i64 vs, .slice (some ⟨Ms, 0, none⟩) SW.length cs] 26) := bS_w12.out.grow hbz
    clear B_w12 DP_w12 DX_w12 bP_w12 bA_w12 RX_w12 bX_w12 DR_w12 bR_w12 RS_w12 RG_w12 bS_w12
    clear hbz
    have cbX0 : z12.cell? ⟨w2.heap.size, 0, none⟩ = some (.int .i64 hp) := bX_z12.out.cell 0
    have cbX1 : z12.cell? ⟨w2.heap.size, 1, none⟩ = some (.int .i64 vu) := bX_z12.out.cell 1
    have cbX2 : z12.cell? ⟨w2.heap.size, 2, none⟩ = some (.slice (some ⟨Mx, 0, none⟩) Q.length cx) := bX_z12.out.cell 2
    have cbA0 : z12.cell? ⟨(w1.heap.size + 1), 0, none⟩ = some (.slice (some ⟨ga, 0, none⟩) x.l.length ca) := bA_z12.out.cell 0
    have cbA1 : z12.cell? ⟨(w1.heap.size + 1), 1, none⟩ = some (.int .i64 x.s) := bA_z12.out.cell 1
    have cbA2 : z12.cell? ⟨(w1.heap.size + 1), 2, none⟩ = some (.int .i64 x.e) := bA_z12.out.cell 2
    have cbA3 : z12.cell? ⟨(w1.heap.size + 1), 3, none⟩ = some (.string x.n) := bA_z12.out.cell 3
    go_wp2_with fail
    refine ((implFindR hp vu _ _ cx ca Q x.l _ RX_z12.out DX_z12.out.1 FP.out.2.2.1.2 FP.out.2.2.1.1.fits EF.out.2.2.1 EF.out.2.2.2)).mono ?_
    rintro e w13 ⟨⟨bz, cz, rfl, hr⟩, hb⟩
    clear cbX0 cbX1 cbX2 cbA0 cbA1 cbA2 cbA3
    have NRZ : Hid (Reads w13 bz x.l) := hr
    have B_w13 : Hid (Below w.heap.size w w13) := grow_on B_z12.out hb
    have DP_w13 : Hid (Pt w13 aP P) := DP_z12.out.below hb
    have DX_w13 : Hid (DAl w13 ga x) := DX_z12.out.below hb
    have bP_w13 : Hid (Blk w13 w1.heap.size #[.int .i64 hp, .int .i64 vp, .slice aP P.length cp] 26) := bP_z12.out.grow hb
    have bA_w13 : Hid (Blk w13 (w1.heap.size + 1) #[.slice (some ⟨ga, 0, none⟩) x.l.length ca, .int .i64 x.s, .int .i64 x.e, .string x.n] 29) := bA_z12.out.grow hb
    have RX_w13 : Hid (Pt w13 (some ⟨Mx, 0, none⟩) Q) := RX_z12.out.below hb
    have bX_w13 : Hid (Blk w13 w2.heap.size #[.int .i64 hp, .int .i64 vu, .slice (some ⟨Mx, 0, none⟩) Q.length cx] 26) := bX_z12.out.grow hb
    have DR_w13 : Hid (Pt w13 aR R) := DR_z12.out.below hb
    have bR_w13 : Hid (Blk w13 w7.heap.size #[.int .i64 hr0, .int .i64 vr0, .slice aR R.length cr] 26) := bR_z12.out.grow hb
    have RS_w13 : Hid (Pt w13 (some ⟨Ms, 0, none⟩) SW) := RS_z12.out.below hb
    have RG_w13 : Hid (RdN w13 (some ⟨Mg, 0, none⟩) GO) := RG_z12.out.below hb
    have bS_w13 : Hid (Blk w13 w8.heap.size #[.int .i64 hr0, .int .i64 vs, .slice (some ⟨Ms, 0, none⟩) SW.length cs] 26) := bS_z12.out.grow hb
    have bOld_w13 : Hid (Blk w13 w12.heap.size #[.slice bo yo.l.length co', .int .i64 yo.s, .int .i64 yo.e, .string yo.n] 29) := bOld_z12.out.grow hb
    clear B_z12 DP_z12 DX_z12 bP_z12 bA_z12 RX_z12 bX_z12 DR_z12 bR_z12 RS_z12 RG_z12 bS_z12 bOld_z12
    have RZ_w13 : Hid (Reads w13 bz x.l) := NRZ.out
    clear NRZ
    clear hb
    go_upto_region 18 with fail
    generalize hz : w13.alloc (.cells #[.slice bz x.l.length cz, .int .i64 x.s, .int .i64 x.e, .string x.n] 29) = z13
    have hbz : Below w13.heap.size w13 z13 := by rw [← hz]; exact Go.Joins.below_alloc1 w13 _
    have bZ_z13 : Hid (Blk z13 w13.heap.size #[.slice bz x.l.length cz, .int .i64 x.s, .int .i64 x.e, .string x.n] 29) := by rw [← hz]; exact (Blk.new _ _ _)
    clear hz
    have B_z13 : Hid (Below w.heap.size w z13) := grow_on B_w13.out hbz
    have DP_z13 : Hid (Pt z13 aP P) := DP_w13.out.below hbz
    have DX_z13 : Hid (DAl z13 ga x) := DX_w13.out.below hbz
    have bP_z13 : Hid (Blk z13 w1.heap.size #[.int .i64 hp, .int .i64 vp, .slice aP P.length cp] 26) := bP_w13.out.grow hbz
    have bA_z13 : Hid (Blk z13 (w1.heap.size + 1) #[.slice (some ⟨ga, 0, none⟩) x.l.length ca, .int .i64 x.s, .int .i64 x.e, .string x.n] 29) := bA_w13.out.grow hbz
    have RX_z13 : Hid (Pt z13 (some ⟨Mx, 0, none⟩) Q) := RX_w13.out.below hbz
    have bX_z13 : Hid (Blk z13 w2.heap.size #[.int .i64 hp, .int .i64 vu, .slice (some ⟨Mx, 0, none⟩) Q.length cx] 26) := bX_w13.out.grow hbz
    have DR_z13 : Hid (Pt z13 aR R) := DR_w13.out.below hbz
    have bR_z13 : Hid (Blk z13 w7.heap.size #[.int .i64 hr0, .int .i64 vr0, .slice aR R.length cr] 26) := bR_w13.out.grow hbz
    have RS_z13 : Hid (Pt z13 (some ⟨Ms, 0, none⟩) SW) := RS_w13.out.below hbz
    have RG_z13 : Hid (RdN z13 (some ⟨Mg, 0, none⟩) GO) := RG_w13.out.below hbz
    have bS_z13 : Hid (Blk z13 w8.heap.size #[.int .i64 hr0, .int .i64 vs, .slice (some ⟨Ms, 0, none⟩) SW.length cs] 26) := bS_w13.out.grow hbz
    have bOld_z13 : Hid (Blk z13 w12.heap.size #[.slice bo yo.l.length co', .int .i64 yo.s, .int .i64 yo.e, .string yo.n] 29) := bOld_w13.out.grow hbz
    have RZ_z13 : Hid (Reads z13 bz x.l) := RZ_w13.out.below hbz
    clear B_w13 DP_w13 DX_w13 bP_w13 bA_w13 RX_w13 bX_w13 DR_w13 bR_w13 RS_w13 RG_w13 bS_w13 bOld_w13 RZ_w13
    clear hbz
    have HS : Hid (∀ w', Below z13.heap.size z13 w' → Below z13.heap.size z13 w' ∧ w'.cell? ⟨w1.heap.size, 0, none⟩ = some (.int .i64 hp) ∧ w'.cell? ⟨w1.heap.size, 1, none⟩ = some (.int .i64 vp) ∧ w'.cell? ⟨w1.heap.size, 2, none⟩ = some (.slice aP P.length cp) ∧ w'.cell? ⟨(w1.heap.size + 1), 0, none⟩ = some (.slice (some ⟨ga, 0, none⟩) x.l.length ca) ∧ w'.cell? ⟨(w1.heap.size + 1), 1, none⟩ = some (.int .i64 x.s) ∧ w'.cell? ⟨(w1.heap.size + 1), 2, none⟩ = some (.int .i64 x.e) ∧ w'.cell? ⟨(w1.heap.size + 1), 3, none⟩ = some (.string x.n) ∧ w'.cell? ⟨w2.heap.size, 0, none⟩ = some (.int .i64 hp) ∧ w'.cell? ⟨w2.heap.size, 1, none⟩ = some (.int .i64 vu) ∧ w'.cell? ⟨w2.heap.size, 2, none⟩ = some (.slice (some ⟨Mx, 0, none⟩) Q.length cx) ∧ w'.cell? ⟨w12.heap.size, 0, none⟩ = some (.slice bo yo.l.length co') ∧ w'.cell? ⟨w12.heap.size, 1, none⟩ = some (.int .i64 yo.s) ∧ w'.cell? ⟨w12.heap.size, 2, none⟩ = some (.int .i64 yo.e) ∧ w'.cell? ⟨w12.heap.size, 3, none⟩ = some (.string yo.n) ∧ w'.cell? ⟨w13.heap.size, 0, none⟩ = some (.slice bz x.l.length cz) ∧ w'.cell? ⟨w13.heap.size, 1, none⟩ = some (.int .i64 x.s) ∧ w'.cell? ⟨w13.heap.size, 2, none⟩ = some (.int .i64 x.e) ∧ w'.cell? ⟨w13.heap.size, 3, none⟩ = some (.string x.n)) := fun w' h => ⟨h, (bP_z13.out.grow h).cell 0, (bP_z13.out.grow h).cell 1, (bP_z13.out.grow h).cell 2, (bA_z13.out.grow h).cell 0, (bA_z13.out.grow h).cell 1, (bA_z13.out.grow h).cell 2, (bA_z13.out.grow h).cell 3, (bX_z13.out.grow h).cell 0, (bX_z13.out.grow h).cell 1, (bX_z13.out.grow h).cell 2, (bOld_z13.out.grow h).cell 0, (bOld_z13.out.grow h).cell 1, (bOld_z13.out.grow h).cell 2, (bOld_z13.out.grow h).cell 3, (bZ_z13.out.grow h).cell 0, (bZ_z13.out.grow h).cell 1, (bZ_z13.out.grow h).cell 2, (bZ_z13.out.grow h).cell 3⟩
    have kz : Below z13.heap.size z13 z13.drew := (Below.refl _ _).drew
    have hw1 : IntKind.i64.wrap (vp + 1) = vu := EQ.out.2.2
    have hw2 : (vu != vu) = false := by simp
    have SMX : Hid (∀ (y : World), Below z13.heap.size z13 y → Calls Tryz.prog 20 #[.agg #[.slice bz x.l.length cz, .int .i64 x.s, .int .i64 x.e, .string x.n], .agg #[.slice (some ⟨ga, 0, none⟩) x.l.length ca, .int .i64 x.s, .int .i64 x.e, .string x.n]] y fun r w' => r = .returned (.bool true) ∧ Below y.heap.size y w') := fun y hy => (implSameA_any _ _ _ _ x.l x.l _ _ _ _ _ _ y (RZ_z13.out.below hy) (DX_z13.out.1.below hy) (fine_max FP.out.2.2.1) (fine_max FP.out.2.2.1)).mono fun e w' h => ⟨h.1.trans (retB (Alm.same_self _ _ _ _)), h.2⟩
    refine wp_region_held_drew (S := fun w' => Below z13.heap.size z13 w' ∧ w'.cell? ⟨w1.heap.size, 0, none⟩ = some (.int .i64 hp) ∧ w'.cell? ⟨w1.heap.size, 1, none⟩ = some (.int .i64 vp) ∧ w'.cell? ⟨w1.heap.size, 2, none⟩ = some (.slice aP P.length cp) ∧ w'.cell? ⟨(w1.heap.size + 1), 0, none⟩ = some (.slice (some ⟨ga, 0, none⟩) x.l.length ca) ∧ w'.cell? ⟨(w1.heap.size + 1), 1, none⟩ = some (.int .i64 x.s) ∧ w'.cell? ⟨(w1.heap.size + 1), 2, none⟩ = some (.int .i64 x.e) ∧ w'.cell? ⟨(w1.heap.size + 1), 3, none⟩ = some (.string x.n) ∧ w'.cell? ⟨w2.heap.size, 0, none⟩ = some (.int .i64 hp) ∧ w'.cell? ⟨w2.heap.size, 1, none⟩ = some (.int .i64 vu) ∧ w'.cell? ⟨w2.heap.size, 2, none⟩ = some (.slice (some ⟨Mx, 0, none⟩) Q.length cx) ∧ w'.cell? ⟨w12.heap.size, 0, none⟩ = some (.slice bo yo.l.length co') ∧ w'.cell? ⟨w12.heap.size, 1, none⟩ = some (.int .i64 yo.s) ∧ w'.cell? ⟨w12.heap.size, 2, none⟩ = some (.int .i64 yo.e) ∧ w'.cell? ⟨w12.heap.size, 3, none⟩ = some (.string yo.n) ∧ w'.cell? ⟨w13.heap.size, 0, none⟩ = some (.slice bz x.l.length cz) ∧ w'.cell? ⟨w13.heap.size, 1, none⟩ = some (.int .i64 x.s) ∧ w'.cell? ⟨w13.heap.size, 2, none⟩ = some (.int .i64 x.e) ∧ w'.cell? ⟨w13.heap.size, 3, none⟩ = some (.string x.n)) (by kernel_rfl) (HS.out _ kz) (fun hHeld => ?_)
    refine wpAnyH_take (i := 0) (oi := { dst := some 162, op := Op.move (Operand.tmp 29), type := 4, pos := "laws.go:357", after := #[], guard := none }) (v := ?vmr0) rfl (by kernel_rfl) (by kernel_rfl) (by kernel_rfl) (fun _ _ _ h => h) (Or.inl ⟨by rfl, ?hymr0⟩) hHeld ?_
    case hymr0 => (intro w hSw; (try dsimp only at hSw); go_simp <;> with_reducible rfl)
    try simp only [Act.put, List.setIfInBounds_toArray, List.set_cons_zero, List.set_cons_succ]
    refine wpAnyH_take (i := 1) (oi := { dst := some 163, op := Op.unOp UnOp.not 4 (Operand.tmp 162), type := 4, pos := "laws.go:357", after := #[{ on := 0, ground := Ground.data }], guard := none }) (v := ?vmr1) rfl (by kernel_rfl) (by kernel_rfl) (by kernel_rfl) (fun _ _ _ h => h) (Or.inl ⟨by rfl, ?hymr1⟩) hHeld ?_
    case hymr1 => (intro w hSw; (try dsimp only at hSw); go_simp <;> with_reducible rfl)
    try simp only [Act.put, List.setIfInBounds_toArray, List.set_cons_zero, List.set_cons_succ]
    refine wpAnyH_take (i := 2) (oi := { dst := some 164, op := Op.move (Operand.tmp 163), type := 4, pos := "laws.go:357", after := #[{ on := 1, ground := Ground.data }], guard := none }) (v := ?vmr2) rfl (by kernel_rfl) (by kernel_rfl) (by kernel_rfl) (fun _ _ _ h => h) (Or.inl ⟨by rfl, ?hymr2⟩) hHeld ?_
    case hymr2 => (intro w hSw; (try dsimp only at hSw); go_simp <;> with_reducible rfl)
    try simp only [Act.put, List.setIfInBounds_toArray, List.set_cons_zero, List.set_cons_succ]
    refine wpAnyH_take (i := 3) (oi := { dst := some 165, op := Op.move (Operand.tmp 6), type := 4, pos := "laws.go:357", after := #[{ on := 2, ground := Ground.guard }], guard := some (2, false) }) (v := ?vmr3) rfl (by kernel_rfl) (by kernel_rfl) (by kernel_rfl) (fun _ _ _ h => h) (Or.inl ⟨by rfl, ?hymr3⟩) hHeld ?_
    case hymr3 => (intro w hSw; (try dsimp only at hSw); go_simp <;> with_reducible rfl)
    try simp only [Act.put, List.setIfInBounds_toArray, List.set_cons_zero, List.set_cons_succ]
    refine wpAnyH_take (i := 4) (oi := { dst := some 166, op := Op.move (Operand.tmp 27), type := 4, pos := "laws.go:357", after := #[{ on := 2, ground := Ground.guard }], guard := some (2, false) }) (v := ?vmr4) rfl (by kernel_rfl) (by kernel_rfl) (by kernel_rfl) (fun _ _ _ h => h) (Or.inl ⟨by rfl, ?hymr4⟩) hHeld ?_
    case hymr4 => (intro w hSw; (try dsimp only at hSw); go_simp <;> with_reducible rfl)
    try simp only [Act.put, List.setIfInBounds_toArray, List.set_cons_zero, List.set_cons_succ]
    refine wpAnyH_take (i := 5) (oi := { dst := some 167, op := Op.binOp BinOp.eql 4 (Operand.tmp 165) (Operand.tmp 166) 4, type := 4, pos := "laws.go:357", after := #[{ on := 3, ground := Ground.data }, { on := 4, ground := Ground.data }, { on := 2, ground := Ground.guard }], guard := some (2, false) }) (v := ?vmr5) rfl (by kernel_rfl) (by kernel_rfl) (by kernel_rfl) (fun _ _ _ h => h) (Or.inl ⟨by rfl, ?hymr5⟩) hHeld ?_
    case hymr5 => (intro w hSw; (try dsimp only at hSw); go_simp <;> with_reducible rfl)
    try simp only [Act.put, List.setIfInBounds_toArray, List.set_cons_zero, List.set_cons_succ]
    refine wpAnyH_take (i := 6) (oi := { dst := some 168, op := Op.pick (Operand.tmp 164) (Operand.const (Value.bool true)) (Operand.tmp 167), type := 4, pos := "laws.go:357", after := #[{ on := 2, ground := Ground.data }, { on := 5, ground := Ground.data }], guard := none }) (v := ?vmr6) rfl (by kernel_rfl) (by kernel_rfl) (by kernel_rfl) (fun _ _ _ h => h) (Or.inl ⟨by rfl, ?hymr6⟩) hHeld ?_
    case hymr6 => (intro w hSw; (try dsimp only at hSw); go_simp <;> with_reducible rfl)
    try simp only [Act.put, List.setIfInBounds_toArray, List.set_cons_zero, List.set_cons_succ]
    refine wpAnyH_take (i := 7) (oi := { dst := some 169, op := Op.move (Operand.tmp 168), type := 4, pos := "laws.go:357", after := #[{ on := 6, ground := Ground.data }, { on := 2, ground := Ground.chain }], guard := none }) (v := ?vmr7) rfl (by kernel_rfl) (by kernel_rfl) (by kernel_rfl) (fun _ _ _ h => h) (Or.inl ⟨by rfl, ?hymr7⟩) hHeld ?_
    case hymr7 => (intro w hSw; (try dsimp only at hSw); go_simp <;> with_reducible rfl)
    try simp only [Act.put, List.setIfInBounds_toArray, List.set_cons_zero, List.set_cons_succ]
    refine wpAnyH_take (i := 8) (oi := { dst := some 170, op := Op.fieldAddr 26 (Operand.tmp 5) 1, type := 0, pos := "laws.go:357", after := #[{ on := 7, ground := Ground.guard }], guard := some (7, false) }) (v := ?vmr8) rfl (by kernel_rfl) (by kernel_rfl) (by kernel_rfl) (fun _ _ _ h => h) (Or.inl ⟨by rfl, ?hymr8⟩) hHeld ?_
    case hymr8 => (intro w hSw; (try dsimp only at hSw); go_simp <;> with_reducible rfl)
    try simp only [Act.put, List.setIfInBounds_toArray, List.set_cons_zero, List.set_cons_succ]
    refine wpAnyH_take (i := 9) (oi := { dst := some 171, op := Op.load 3 (Operand.tmp 170), type := 3, pos := "laws.go:357", after := #[{ on := 8, ground := Ground.data }, { on := 7, ground := Ground.guard }], guard := some (7, false) }) (v := ?vmr9) rfl (by kernel_rfl) (by kernel_rfl) (by kernel_rfl) (fun _ _ _ h => h) (Or.inl ⟨by rfl, ?hymr9⟩) hHeld ?_
    case hymr9 => (intro w hSw; (try dsimp only at hSw); go_simp <;> with_reducible rfl)
    try simp only [Act.put, List.setIfInBounds_toArray, List.set_cons_zero, List.set_cons_succ]
    refine wpAnyH_take (i := 10) (oi := { dst := some 172, op := Op.fieldAddr 26 (Operand.tmp 3) 1, type := 0, pos := "laws.go:357", after := #[{ on := 7, ground := Ground.guard }], guard := some (7, false) }) (v := ?vmr10) rfl (by kernel_rfl) (by kernel_rfl) (by kernel_rfl) (fun _ _ _ h => h) (Or.inl ⟨by rfl, ?hymr10⟩) hHeld ?_
    case hymr10 => (intro w hSw; (try dsimp only at hSw); go_simp <;> with_reducible rfl)
    try simp only [Act.put, List.setIfInBounds_toArray, List.set_cons_zero, List.set_cons_succ]
    refine wpAnyH_take (i := 11) (oi := { dst := some 173, op := Op.load 3 (Operand.tmp 172), type := 3, pos := "laws.go:357", after := #[{ on := 10, ground := Ground.data }, { on := 7, ground := Ground.guard }], guard := some (7, false) }) (v := ?vmr11) rfl (by kernel_rfl) (by kernel_rfl) (by kernel_rfl) (fun _ _ _ h => h) (Or.inl ⟨by rfl, ?hymr11⟩) hHeld ?_
    case hymr11 => (intro w hSw; (try dsimp only at hSw); go_simp <;> with_reducible rfl)
    try simp only [Act.put, List.setIfInBounds_toArray, List.set_cons_zero, List.set_cons_succ]
    refine wpAnyH_take (i := 12) (oi := { dst := some 174, op := Op.binOp BinOp.add 3 (Operand.tmp 173) (Operand.const (Value.int IntKind.i64 1)) 3, type := 3, pos := "laws.go:357", after := #[{ on := 11, ground := Ground.data }, { on := 7, ground := Ground.guard }], guard := some (7, false) }) (v := ?vmr12) rfl (by kernel_rfl) (by kernel_rfl) (by kernel_rfl) (fun _ _ _ h => h) (Or.inl ⟨by rfl, ?hymr12⟩) hHeld ?_
    case hymr12 => (intro w hSw; (try dsimp only at hSw); go_simp <;> with_reducible rfl)
    try simp only [Act.put, List.setIfInBounds_toArray, List.set_cons_zero, List.set_cons_succ]
    refine wpAnyH_take (i := 13) (oi := { dst := some 175, op := Op.binOp BinOp.neq 3 (Operand.tmp 171) (Operand.tmp 174) 3, type := 4, pos := "laws.go:357", after := #[{ on := 9, ground := Ground.data }, { on := 12, ground := Ground.data }, { on := 7, ground := Ground.guard }], guard := some (7, false) }) (v := ?vmr13) rfl (by kernel_rfl) (by kernel_rfl) (by kernel_rfl) (fun _ _ _ h => h) (Or.inl ⟨by rfl, ?hymr13⟩) hHeld ?_
    case hymr13 => (intro w hSw; (try dsimp only at hSw); go_simp <;> with_reducible rfl)
    try simp only [Act.put, List.setIfInBounds_toArray, List.set_cons_zero, List.set_cons_succ]
    refine wpAnyH_take (i := 14) (oi := { dst := some 176, op := Op.pick (Operand.tmp 169) (Operand.const (Value.bool true)) (Operand.tmp 175), type := 4, pos := "laws.go:357", after := #[{ on := 7, ground := Ground.data }, { on := 13, ground := Ground.data }], guard := none }) (v := ?vmr14) rfl (by kernel_rfl) (by kernel_rfl) (by kernel_rfl) (fun _ _ _ h => h) (Or.inl ⟨by rfl, ?hymr14⟩) hHeld ?_
    case hymr14 => (intro w hSw; (try dsimp only at hSw); go_simp <;> with_reducible rfl)
    try simp only [Act.put, List.setIfInBounds_toArray, List.set_cons_zero, List.set_cons_succ]
    refine wpAnyH_take (i := 15) (oi := { dst := some 177, op := Op.move (Operand.tmp 176), type := 4, pos := "laws.go:357", after := #[{ on := 14, ground := Ground.data }, { on := 7, ground := Ground.chain }], guard := none }) (v := ?vmr15) rfl (by kernel_rfl) (by kernel_rfl) (by kernel_rfl) (fun _ _ _ h => h) (Or.inl ⟨by rfl, ?hymr15⟩) hHeld ?_
    case hymr15 => (intro w hSw; (try dsimp only at hSw); go_simp <;> with_reducible rfl)
    try simp only [Act.put, List.setIfInBounds_toArray, List.set_cons_zero, List.set_cons_succ]
    refine wpAnyH_take (i := 16) (oi := { dst := some 178, op := Op.move (Operand.tmp 27), type := 4, pos := "laws.go:357", after := #[{ on := 15, ground := Ground.guard }], guard := some (15, false) }) (v := ?vmr16) rfl (by kernel_rfl) (by kernel_rfl) (by kernel_rfl) (fun _ _ _ h => h) (Or.inl ⟨by rfl, ?hymr16⟩) hHeld ?_
    case hymr16 => (intro w hSw; (try dsimp only at hSw); go_simp <;> with_reducible rfl)
    try simp only [Act.put, List.setIfInBounds_toArray, List.set_cons_zero, List.set_cons_succ]
    refine wpAnyH_take (i := 17) (oi := { dst := some 179, op := Op.move (Operand.tmp 178), type := 4, pos := "laws.go:357", after := #[{ on := 16, ground := Ground.data }, { on := 15, ground := Ground.chain }, { on := 15, ground := Ground.guard }], guard := some (15, false) }) (v := ?vmr17) rfl (by kernel_rfl) (by kernel_rfl) (by kernel_rfl) (fun _ _ _ h => h) (Or.inl ⟨by rfl, ?hymr17⟩) hHeld ?_
    case hymr17 => (intro w hSw; (try dsimp only at hSw); go_simp <;> with_reducible rfl)
    try simp only [Act.put, List.setIfInBounds_toArray, List.set_cons_zero, List.set_cons_succ]
    refine wpAnyH_take (i := 18) (oi := { dst := some 180, op := Op.load 29 (Operand.tmp 28), type := 29, pos := "laws.go:357", after := #[{ on := 17, ground := Ground.guard }], guard := some (17, true) }) (v := undef) rfl (by kernel_rfl) (by kernel_rfl) (by kernel_rfl) (fun _ _ _ h => h) (Or.inr ⟨by rfl, rfl⟩) hHeld ?_
    try simp only [Act.put, List.setIfInBounds_toArray, List.set_cons_zero, List.set_cons_succ]
    refine wpAnyH_take (i := 19) (oi := { dst := some 181, op := Op.load 29 (Operand.tmp 26), type := 29, pos := "laws.go:357", after := #[{ on := 17, ground := Ground.guard }], guard := some (17, true) }) (v := undef) rfl (by kernel_rfl) (by kernel_rfl) (by kernel_rfl) (fun _ _ _ h => h) (Or.inr ⟨by rfl, rfl⟩) hHeld ?_
    try simp only [Act.put, List.setIfInBounds_toArray, List.set_cons_zero, List.set_cons_succ]
    refine wpAnyH_take (i := 20) (oi := { dst := some 182, op := Op.load 29 (Operand.tmp 4), type := 29, pos := "laws.go:357", after := #[{ on := 17, ground := Ground.guard }], guard := some (17, true) }) (v := undef) rfl (by kernel_rfl) (by kernel_rfl) (by kernel_rfl) (fun _ _ _ h => h) (Or.inr ⟨by rfl, rfl⟩) hHeld ?_
    try simp only [Act.put, List.setIfInBounds_toArray, List.set_cons_zero, List.set_cons_succ]
    refine wpAnyH_ready (rs := [21]) (by kernel_rfl) (by simp) ?_
    refine AllReadyH.cons (o := { dst := some 183, op := Op.call { callee := Callee.value (Operand.func 25), args := #[Operand.tmp 181, Operand.tmp 182], argTypes := #[29, 29] }, type := 29, pos := "laws.go:357", after := #[{ on := 19, ground := Ground.data }, { on := 20, ground := Ground.data }, { on := 17, ground := Ground.chain }, { on := 17, ground := Ground.guard }], guard := some (17, true) }) rfl (fun K hK => ?_) AllReadyH.nil
    go_simp
    refine hK.out _ _ hHeld (fun hHeld => ?_)
    clear hK K
    try simp only [Act.put, List.setIfInBounds_toArray, List.set_cons_zero, List.set_cons_succ]
    refine wpAnyH_ready (rs := [22]) (by kernel_rfl) (by simp) ?_
    refine AllReadyH.cons (o := { dst := some 184, op := Op.call { callee := Callee.value (Operand.func 20), args := #[Operand.tmp 180, Operand.tmp 183], argTypes := #[29, 29] }, type := 4, pos := "laws.go:357", after := #[{ on := 18, ground := Ground.data }, { on := 21, ground := Ground.data }, { on := 21, ground := Ground.chain }, { on := 17, ground := Ground.guard }], guard := some (17, true) }) rfl (fun K hK => ?_) AllReadyH.nil
    go_simp
    refine hK.out _ _ hHeld (fun hHeld => ?_)
    clear hK K
    try simp only [Act.put, List.setIfInBounds_toArray, List.set_cons_zero, List.set_cons_succ]
    refine wpAnyH_take (i := 23) (oi := { dst := some 185, op := Op.unOp UnOp.not 4 (Operand.tmp 184), type := 4, pos := "laws.go:357", after := #[{ on := 22, ground := Ground.data }, { on := 17, ground := Ground.guard }], guard := some (17, true) }) (v := undef) rfl (by kernel_rfl) (by kernel_rfl) (by kernel_rfl) (fun _ _ _ h => h) (Or.inr ⟨by rfl, rfl⟩) hHeld ?_
    try simp only [Act.put, List.setIfInBounds_toArray, List.set_cons_zero, List.set_cons_succ]
    refine wpAnyH_take (i := 24) (oi := { dst := some 186, op := Op.pick (Operand.tmp 179) (Operand.tmp 185) (Operand.const (Value.bool false)), type := 4, pos := "laws.go:357", after := #[{ on := 17, ground := Ground.data }, { on := 23, ground := Ground.data }, { on := 15, ground := Ground.guard }], guard := some (15, false) }) (v := ?vmr24) rfl (by kernel_rfl) (by kernel_rfl) (by kernel_rfl) (fun _ _ _ h => h) (Or.inl ⟨by rfl, ?hymr24⟩) hHeld ?_
    case hymr24 => (intro w hSw; (try dsimp only at hSw); go_simp <;> with_reducible rfl)
    try simp only [Act.put, List.setIfInBounds_toArray, List.set_cons_zero, List.set_cons_succ]
    refine wpAnyH_take (i := 25) (oi := { dst := some 187, op := Op.pick (Operand.tmp 177) (Operand.const (Value.bool true)) (Operand.tmp 186), type := 4, pos := "laws.go:357", after := #[{ on := 15, ground := Ground.data }, { on := 24, ground := Ground.data }], guard := none }) (v := ?vmr25) rfl (by kernel_rfl) (by kernel_rfl) (by kernel_rfl) (fun _ _ _ h => h) (Or.inl ⟨by rfl, ?hymr25⟩) hHeld ?_
    case hymr25 => (intro w hSw; (try dsimp only at hSw); go_simp <;> with_reducible rfl)
    try simp only [Act.put, List.setIfInBounds_toArray, List.set_cons_zero, List.set_cons_succ]
    refine wpAnyH_take (i := 26) (oi := { dst := some 188, op := Op.move (Operand.tmp 187), type := 4, pos := "laws.go:357", after := #[{ on := 25, ground := Ground.data }, { on := 22, ground := Ground.chain }], guard := none }) (v := ?vmr26) rfl (by kernel_rfl) (by kernel_rfl) (by kernel_rfl) (fun _ _ _ h => h) (Or.inl ⟨by rfl, ?hymr26⟩) hHeld ?_
    case hymr26 => (intro w hSw; (try dsimp only at hSw); go_simp <;> with_reducible rfl)
    try simp only [Act.put, List.setIfInBounds_toArray, List.set_cons_zero, List.set_cons_succ]
    refine wpAnyH_take (i := 27) (oi := { dst := some 189, op := Op.move (Operand.tmp 27), type := 4, pos := "laws.go:357", after := #[{ on := 26, ground := Ground.guard }], guard := some (26, false) }) (v := ?vmr27) rfl (by kernel_rfl) (by kernel_rfl) (by kernel_rfl) (fun _ _ _ h => h) (Or.inl ⟨by rfl, ?hymr27⟩) hHeld ?_
    case hymr27 => (intro w hSw; (try dsimp only at hSw); go_simp <;> with_reducible rfl)
    try simp only [Act.put, List.setIfInBounds_toArray, List.set_cons_zero, List.set_cons_succ]
    refine wpAnyH_take (i := 28) (oi := { dst := some 190, op := Op.unOp UnOp.not 4 (Operand.tmp 189), type := 4, pos := "laws.go:357", after := #[{ on := 27, ground := Ground.data }, { on := 26, ground := Ground.guard }], guard := some (26, false) }) (v := ?vmr28) rfl (by kernel_rfl) (by kernel_rfl) (by kernel_rfl) (fun _ _ _ h => h) (Or.inl ⟨by rfl, ?hymr28⟩) hHeld ?_
    case hymr28 => (intro w hSw; (try dsimp only at hSw); go_simp <;> with_reducible rfl)
    try simp only [Act.put, List.setIfInBounds_toArray, List.set_cons_zero, List.set_cons_succ]
    refine wpAnyH_take (i := 29) (oi := { dst := some 191, op := Op.move (Operand.tmp 190), type := 4, pos := "laws.go:357", after := #[{ on := 28, ground := Ground.data }, { on := 26, ground := Ground.chain }, { on := 26, ground := Ground.guard }], guard := some (26, false) }) (v := ?vmr29) rfl (by kernel_rfl) (by kernel_rfl) (by kernel_rfl) (fun _ _ _ h => h) (Or.inl ⟨by rfl, ?hymr29⟩) hHeld ?_
    case hymr29 => (intro w hSw; (try dsimp only at hSw); go_simp <;> with_reducible rfl)
    try simp only [Act.put, List.setIfInBounds_toArray, List.set_cons_zero, List.set_cons_succ]
    refine wpAnyH_take (i := 30) (oi := { dst := some 192, op := Op.load 29 (Operand.tmp 28), type := 29, pos := "laws.go:357", after := #[{ on := 29, ground := Ground.guard }], guard := some (29, true) }) (v := ?vmr30) rfl (by kernel_rfl) (by kernel_rfl) (by kernel_rfl) (fun _ _ _ h => h) (Or.inl ⟨by rfl, ?hymr30⟩) hHeld ?_
    case hymr30 => (intro w hSw; (try dsimp only at hSw); go_simp <;> with_reducible rfl)
    try simp only [Act.put, List.setIfInBounds_toArray, List.set_cons_zero, List.set_cons_succ]
    refine wpAnyH_take (i := 31) (oi := { dst := some 193, op := Op.load 29 (Operand.tmp 4), type := 29, pos := "laws.go:357", after := #[{ on := 29, ground := Ground.guard }], guard := some (29, true) }) (v := ?vmr31) rfl (by kernel_rfl) (by kernel_rfl) (by kernel_rfl) (fun _ _ _ h => h) (Or.inl ⟨by rfl, ?hymr31⟩) hHeld ?_
    case hymr31 => (intro w hSw; (try dsimp only at hSw); go_simp <;> with_reducible rfl)
    try simp only [Act.put, List.setIfInBounds_toArray, List.set_cons_zero, List.set_cons_succ]
    refine wpAnyH_ready (rs := [32]) (by kernel_rfl) (by simp) ?_
    refine AllReadyH.cons (o := { dst := some 194, op := Op.call { callee := Callee.value (Operand.func 20), args := #[Operand.tmp 192, Operand.tmp 193], argTypes := #[29, 29] }, type := 4, pos := "laws.go:357", after := #[{ on := 30, ground := Ground.data }, { on := 31, ground := Ground.data }, { on := 29, ground := Ground.chain }, { on := 29, ground := Ground.guard }], guard := some (29, true) }) rfl (fun K hK => ?_) AllReadyH.nil
    go_simp
    refine (SMX.out _ hHeld.1).mono ?_
    rintro r wvmr ⟨rfl, hy⟩
    have hz : Below z13.heap.size z13 wvmr := grow_on hHeld.1 hy
    clear hHeld hy
    refine hK.out _ _ (HS.out _ hz) (fun hHeld => ?_)
    clear hK K hz
    try simp only [Act.put, List.setIfInBounds_toArray, List.set_cons_zero, List.set_cons_succ]
    refine wpAnyH_take (i := 33) (oi := { dst := some 195, op := Op.unOp UnOp.not 4 (Operand.tmp 194), type := 4, pos := "laws.go:357", after := #[{ on := 32, ground := Ground.data }, { on := 29, ground := Ground.guard }], guard := some (29, true) }) (v := ?vmr33) rfl (by kernel_rfl) (by kernel_rfl) (by kernel_rfl) (fun _ _ _ h => h) (Or.inl ⟨by rfl, ?hymr33⟩) hHeld ?_
    case hymr33 => (intro w hSw; (try dsimp only at hSw); go_simp <;> with_reducible rfl)
    try simp only [Act.put, List.setIfInBounds_toArray, List.set_cons_zero, List.set_cons_succ]
    refine wpAnyH_take (i := 34) (oi := { dst := some 196, op := Op.pick (Operand.tmp 191) (Operand.tmp 195) (Operand.const (Value.bool false)), type := 4, pos := "laws.go:357", after := #[{ on := 29, ground := Ground.data }, { on := 33, ground := Ground.data }, { on := 26, ground := Ground.guard }], guard := some (26, false) }) (v := ?vmr34) rfl (by kernel_rfl) (by kernel_rfl) (by kernel_rfl) (fun _ _ _ h => h) (Or.inl ⟨by rfl, ?hymr34⟩) hHeld ?_
    case hymr34 => (intro w hSw; (try dsimp only at hSw); go_simp <;> with_reducible rfl)
    try simp only [Act.put, List.setIfInBounds_toArray, List.set_cons_zero, List.set_cons_succ]
    refine wpAnyH_take (i := 35) (oi := { dst := some 197, op := Op.pick (Operand.tmp 188) (Operand.const (Value.bool true)) (Operand.tmp 196), type := 4, pos := "laws.go:357", after := #[{ on := 26, ground := Ground.data }, { on := 34, ground := Ground.data }], guard := none }) (v := ?vmr35) rfl (by kernel_rfl) (by kernel_rfl) (by kernel_rfl) (fun _ _ _ h => h) (Or.inl ⟨by rfl, ?hymr35⟩) hHeld ?_
    case hymr35 => (intro w hSw; (try dsimp only at hSw); go_simp <;> with_reducible rfl)
    try simp only [Act.put, List.setIfInBounds_toArray, List.set_cons_zero, List.set_cons_succ]
    refine wpAnyH_done (by kernel_rfl) ?_ _
    have hbz := hHeld.1
    clear hHeld HS kz hw1 hw2 SMX
    clear bP_z13
    clear bA_z13
    clear bX_z13
    clear bOld_z13
    clear bZ_z13
    clear DP_z13
    clear DX_z13
    clear RX_z13
    clear RZ_z13
    skip
    have B_wvmr : Hid (Below w.heap.size w wvmr) := grow_on B_z13.out hbz
    have DR_wvmr : Hid (Pt wvmr aR R) := DR_z13.out.below hbz
    have bR_wvmr : Hid (Blk wvmr w7.heap.size #[.int .i64 hr0, .int .i64 vr0, .slice aR R.length cr] 26) := bR_z13.out.grow hbz
    have RS_wvmr : Hid (Pt wvmr (some ⟨Ms, 0, none⟩) SW) := RS_z13.out.below hbz
    have RG_wvmr : Hid (RdN wvmr (some ⟨Mg, 0, none⟩) GO) := RG_z13.out.below hbz
    have bS_wvmr : Hid (Blk wvmr w8.heap.size #[.int .i64 hr0, .int .i64 vs, .slice (some ⟨Ms, 0, none⟩) SW.length cs] 26) := bS_z13.out.grow hbz
    clear B_z13 DR_z13 bR_z13 RS_z13 RG_z13 bS_z13
    clear hbz
    go_upto_region 20 with fail
    have cbS0 : wvmr.cell? ⟨w8.heap.size, 0, none⟩ = some (.int .i64 hr0) := bS_wvmr.out.cell 0
    have cbS1 : wvmr.cell? ⟨w8.heap.size, 1, none⟩ = some (.int .i64 vs) := bS_wvmr.out.cell 1
    have cbS2 : wvmr.cell? ⟨w8.heap.size, 2, none⟩ = some (.slice (some ⟨Ms, 0, none⟩) SW.length cs) := bS_wvmr.out.cell 2
    go_wp2_with fail
    refine (implAllR hr0 vs _ cs SW _ RS_wvmr.out ES.out.2.2.2.1).mono ?_
    rintro e w14 ⟨⟨Ml, cl', rfl, hr⟩, hb⟩
    clear cbS0 cbS1 cbS2
    have NRL : Hid (RdN w14 (some ⟨Ml, 0, none⟩) AL) := hr
    have B_w14 : Hid (Below w.heap.size w w14) := grow_on B_wvmr.out hb
    have DR_w14 : Hid (Pt w14 aR R) := DR_wvmr.out.below hb
    have bR_w14 : Hid (Blk w14 w7.heap.size #[.int .i64 hr0, .int .i64 vr0, .slice aR R.length cr] 26) := bR_wvmr.out.grow hb
    have RS_w14 : Hid (Pt w14 (some ⟨Ms, 0, none⟩) SW) := RS_wvmr.out.below hb
    have RG_w14 : Hid (RdN w14 (some ⟨Mg, 0, none⟩) GO) := RG_wvmr.out.below hb
    have bS_w14 : Hid (Blk w14 w8.heap.size #[.int .i64 hr0, .int .i64 vs, .slice (some ⟨Ms, 0, none⟩) SW.length cs] 26) := bS_wvmr.out.grow hb
    clear B_wvmr DR_wvmr bR_wvmr RS_wvmr RG_wvmr bS_wvmr
    have RL_w14 : Hid (RdN w14 (some ⟨Ml, 0, none⟩) AL) := NRL.out
    clear NRL
    clear hb
    go_upto_region 21 with fail
    have hal5 : AL.length ≤ 504 := by have := FG.out.2.2.2; omega
    go_wp2
    go_loopw [31] (fun i w' => ∃ m : Nat, i = .int .i64 m ∧ m ≤ AL.length ∧ Below w14.heap.size w14 w') (fun i _ => AL.length - (intOf i).toNat)
    case atStart => exact ⟨0, rfl, Nat.zero_le _, Below.refl _ _⟩
    case round =>
      obtain ⟨m, rfl, hmA, hw0⟩ := hrel
      have HW : Hid (Below w14.heap.size w14 wr) := hw0
      clear hw0
      by_cases hlt : m < AL.length
      ·
        have hlt' : (m : Int) < (AL.length : Int) := by omega
        obtain ⟨bb, oo, ee, hbL, gL, oL, cpL, hatL⟩ := (RL_w14.out.below HW.out).get hlt
        cases ee
        have rL0 : wr.cell? ⟨Ml, m * 4, none⟩ = some (.slice (some ⟨gL, oL, none⟩) (nthP AL m).l.length cpL) := by have := hatL.c0; rwa [Nat.zero_add] at this
        have rL1 : wr.cell? ⟨Ml, m * 4 + 1, none⟩ = some (.int .i64 (nthP AL m).s) := by have := hatL.c1; rwa [Nat.zero_add] at this
        have rL2 : wr.cell? ⟨Ml, m * 4 + 2, none⟩ = some (.int .i64 (nthP AL m).e) := by have := hatL.c2; rwa [Nat.zero_add] at this
        have rL3 : wr.cell? ⟨Ml, m * 4 + 3, none⟩ = some (.string (nthP AL m).n) := by have := hatL.c3; rwa [Nat.zero_add] at this
        have HOv : Hid (Calls Tryz.prog 27 #[.agg #[.slice (some ⟨gL, oL, none⟩) (nthP AL m).l.length cpL, .int .i64 (nthP AL m).s, .int .i64 (nthP AL m).e, .string (nthP AL m).n], .int .i64 now] wr fun r w' => r = .returned (.bool false) ∧ Below wr.heap.size wr w') := (implOver_any _ _ _ _ now wr).mono fun e w' h => ⟨h.1.trans (retB (FO.out m hlt)), h.2⟩
        clear hatL
        go_wp2_with fail
        refine HOv.out.mono ?_
        rintro r wo ⟨rfl, hbo⟩
        have HV2 : Hid (Below w14.heap.size w14 wo) := grow_on HW.out hbo
        clear hbo rL0 rL1 rL2 rL3 HOv
        go_wp2
        go_roundw
        case rel => exact ⟨m + 1, by go_num, by omega, HV2.out⟩
        case measure => simp [intOf]; omega
      ·
        have hge : ¬ (m : Int) < (AL.length : Int) := by omega
        have bSw := bS_w14.out.grow HW.out
        have bRw := bR_w14.out.grow HW.out
        have HBw : Hid (Below w.heap.size w wr) := grow_on B_w14.out HW.out
        have HPR : Hid (Pt wr aR R) := DR_w14.out.below HW.out
        have HS : Hid (∀ w', Below wr.heap.size wr w' → Below wr.heap.size wr w' ∧ w'.cell? ⟨w7.heap.size, 0, none⟩ = some (.int .i64 hr0) ∧ w'.cell? ⟨w7.heap.size, 1, none⟩ = some (.int .i64 vr0) ∧ w'.cell? ⟨w7.heap.size, 2, none⟩ = some (.slice aR R.length cr) ∧ w'.cell? ⟨w8.heap.size, 0, none⟩ = some (.int .i64 hr0) ∧ w'.cell? ⟨w8.heap.size, 1, none⟩ = some (.int .i64 vs) ∧ w'.cell? ⟨w8.heap.size, 2, none⟩ = some (.slice (some ⟨Ms, 0, none⟩) SW.length cs)) := fun w' h => ⟨h, (bRw.grow h).cell 0, (bRw.grow h).cell 1, (bRw.grow h).cell 2, (bSw.grow h).cell 0, (bSw.grow h).cell 1, (bSw.grow h).cell 2⟩
        have kz : Below wr.heap.size wr wr.drew := (Below.refl _ _).drew
        have hsum : (AL.length : Int) + (GO.length : Int) = (AR.length : Int) := by have := FG.out.2.2.2.1; omega
        have hw1 : IntKind.i64.wrap ((AL.length : Int) + (GO.length : Int)) = (AR.length : Int) := by rw [IntKind.wrap_i64]; have := FG.out.2.2.2.2; omega
        have hw2 : ((AR.length : Int) == (AR.length : Int)) = true := by simp
        have hw3 : IntKind.i64.wrap (AR.length : Int) = (AR.length : Int) := by rw [IntKind.wrap_i64]; have := FG.out.2.2.2.2; omega
        have hver : (vs != vr0) = decide ((GO.length : Int) > 0) := FV.out
        have AI : Hid (∀ (u : World), Below wr.heap.size wr u → Calls Tryz.prog 26 #[.agg #[.int .i64 hr0, .int .i64 vr0, .slice aR R.length cr]] u fun r w' => (∃ M c, r = .returned (.slice (some ⟨M, 0, none⟩) AR.length c) ∧ RdN w' (some ⟨M, 0, none⟩) AR) ∧ Below u.heap.size u w') := fun u hu => implAllR hr0 vr0 aR cr R u (HPR.out.below hu) ES.out.2.2.2.2
        have AS : Hid (∀ (u : World), Below wr.heap.size wr u → Calls Tryz.prog 28 #[.agg #[.int .i64 hr0, .int .i64 vr0, .slice aR R.length cr]] u fun r w' => (∃ M c, r = .returned (.slice (some ⟨M, 0, none⟩) AR.length c) ∧ RdN w' (some ⟨M, 0, none⟩) AR) ∧ Below u.heap.size u w') := fun u hu => specAllR hr0 vr0 aR cr R u (HPR.out.below hu) ES.out.2.2.2.2
        have SL : Hid (∀ (u : World) (M1 c1 M2 c2 : Nat), RdN u (some ⟨M1, 0, none⟩) AR → RdN u (some ⟨M2, 0, none⟩) AR → Calls Tryz.prog 21 #[.slice (some ⟨M1, 0, none⟩) AR.length c1, .slice (some ⟨M2, 0, none⟩) AR.length c2] u fun r w' => r = .returned (.bool true) ∧ Below u.heap.size u w') := fun u M1 c1 M2 c2 h1 h2 => (sameList_any _ _ c1 c2 AR AR u h1.rd h2.rd (by have := FG.out.2.2.2; omega) (by have := FG.out.2.2.2; omega) (finesP FG.out.2.2.1) (finesP FG.out.2.2.1)).mono fun e w' h => ⟨h.1.trans (retB (same_refl _)), h.2⟩
        clear bSw bRw
        go_upto_region 26 with fail
        refine wp_region_held_drew (S := fun w' => Below wr.heap.size wr w' ∧ w'.cell? ⟨w7.heap.size, 0, none⟩ = some (.int .i64 hr0) ∧ w'.cell? ⟨w7.heap.size, 1, none⟩ = some (.int .i64 vr0) ∧ w'.cell? ⟨w7.heap.size, 2, none⟩ = some (.slice aR R.length cr) ∧ w'.cell? ⟨w8.heap.size, 0, none⟩ = some (.int .i64 hr0) ∧ w'.cell? ⟨w8.heap.size, 1, none⟩ = some (.int .i64 vs) ∧ w'.cell? ⟨w8.heap.size, 2, none⟩ = some (.slice (some ⟨Ms, 0, none⟩) SW.length cs)) (by kernel_rfl) (HS.out _ kz) (fun hHeld => ?_)
        refine wpAnyH_take (i := 0) (oi := { dst := some 212, op := Op.move (Operand.tmp 30), type := 40, pos := "laws.go:366", after := #[], guard := none }) (v := ?vms0) rfl (by kernel_rfl) (by kernel_rfl) (by kernel_rfl) (fun _ _ _ h => h) (Or.inl ⟨by rfl, ?hyms0⟩) hHeld ?_
        case hyms0 => (intro w hSw; (try dsimp only at hSw); go_simp <;> with_reducible rfl)
        try simp only [Act.put, List.setIfInBounds_toArray, List.set_cons_zero, List.set_cons_succ]
        refine wpAnyH_take (i := 1) (oi := { dst := some 213, op := Op.call { callee := Callee.builtin Builtin.len, args := #[Operand.tmp 212], argTypes := #[40] }, type := 3, pos := "laws.go:366", after := #[{ on := 0, ground := Ground.data }], guard := none }) (v := ?vms1) rfl (by kernel_rfl) (by kernel_rfl) (by kernel_rfl) (fun _ _ _ h => h) (Or.inl ⟨by rfl, ?hyms1⟩) hHeld ?_
        case hyms1 => (intro w hSw; (try dsimp only at hSw); go_simp <;> with_reducible rfl)
        try simp only [Act.put, List.setIfInBounds_toArray, List.set_cons_zero, List.set_cons_succ]
        refine wpAnyH_take (i := 2) (oi := { dst := some 214, op := Op.move (Operand.tmp 18), type := 40, pos := "laws.go:366", after := #[], guard := none }) (v := ?vms2) rfl (by kernel_rfl) (by kernel_rfl) (by kernel_rfl) (fun _ _ _ h => h) (Or.inl ⟨by rfl, ?hyms2⟩) hHeld ?_
        case hyms2 => (intro w hSw; (try dsimp only at hSw); go_simp <;> with_reducible rfl)
        try simp only [Act.put, List.setIfInBounds_toArray, List.set_cons_zero, List.set_cons_succ]
        refine wpAnyH_take (i := 3) (oi := { dst := some 215, op := Op.call { callee := Callee.builtin Builtin.len, args := #[Operand.tmp 214], argTypes := #[40] }, type := 3, pos := "laws.go:366", after := #[{ on := 2, ground := Ground.data }], guard := none }) (v := ?vms3) rfl (by kernel_rfl) (by kernel_rfl) (by kernel_rfl) (fun _ _ _ h => h) (Or.inl ⟨by rfl, ?hyms3⟩) hHeld ?_
        case hyms3 => (intro w hSw; (try dsimp only at hSw); go_simp <;> with_reducible rfl)
        try simp only [Act.put, List.setIfInBounds_toArray, List.set_cons_zero, List.set_cons_succ]
        refine wpAnyH_take (i := 4) (oi := { dst := some 216, op := Op.binOp BinOp.add 3 (Operand.tmp 213) (Operand.tmp 215) 3, type := 3, pos := "laws.go:366", after := #[{ on := 1, ground := Ground.data }, { on := 3, ground := Ground.data }], guard := none }) (v := ?vms4) rfl (by kernel_rfl) (by kernel_rfl) (by kernel_rfl) (fun _ _ _ h => h) (Or.inl ⟨by rfl, ?hyms4⟩) hHeld ?_
        case hyms4 => (intro w hSw; (try dsimp only at hSw); go_simp <;> with_reducible rfl)
        try simp only [Act.put, List.setIfInBounds_toArray, List.set_cons_zero, List.set_cons_succ]
        refine wpAnyH_take (i := 5) (oi := { dst := some 217, op := Op.load 26 (Operand.tmp 15), type := 26, pos := "laws.go:366", after := #[], guard := none }) (v := ?vms5) rfl (by kernel_rfl) (by kernel_rfl) (by kernel_rfl) (fun _ _ _ h => h) (Or.inl ⟨by rfl, ?hyms5⟩) hHeld ?_
        case hyms5 => (intro w hSw; (try dsimp only at hSw); go_simp <;> with_reducible rfl)
        try simp only [Act.put, List.setIfInBounds_toArray, List.set_cons_zero, List.set_cons_succ]
        refine wpAnyH_ready (rs := [6]) (by kernel_rfl) (by simp) ?_
        refine AllReadyH.cons (o := { dst := some 218, op := Op.call { callee := Callee.value (Operand.func 26), args := #[Operand.tmp 217], argTypes := #[26] }, type := 40, pos := "laws.go:366", after := #[{ on := 5, ground := Ground.data }], guard := none }) rfl (fun K hK => ?_) AllReadyH.nil
        go_simp
        refine (AI.out _ hHeld.1).mono ?_
        rintro r wc6 ⟨⟨M6, c6, rfl, hr6⟩, hy⟩
        have HK6 : Hid (RdN wc6 (some ⟨M6, 0, none⟩) AR) := hr6
        have hz : Below wr.heap.size wr wc6 := grow_on hHeld.1 hy
        clear hHeld hy hr6
        refine hK.out _ _ (HS.out _ hz) (fun hHeld => ?_)
        clear hK K hz
        try simp only [Act.put, List.setIfInBounds_toArray, List.set_cons_zero, List.set_cons_succ]
        refine wpAnyH_take (i := 7) (oi := { dst := some 219, op := Op.call { callee := Callee.builtin Builtin.len, args := #[Operand.tmp 218], argTypes := #[40] }, type := 3, pos := "laws.go:366", after := #[{ on := 6, ground := Ground.data }], guard := none }) (v := ?vms7) rfl (by kernel_rfl) (by kernel_rfl) (by kernel_rfl) (fun _ _ _ h => h) (Or.inl ⟨by rfl, ?hyms7⟩) hHeld ?_
        case hyms7 => (intro w hSw; (try dsimp only at hSw); go_simp <;> with_reducible rfl)
        try simp only [Act.put, List.setIfInBounds_toArray, List.set_cons_zero, List.set_cons_succ]
        refine wpAnyH_take (i := 8) (oi := { dst := some 220, op := Op.binOp BinOp.eql 3 (Operand.tmp 216) (Operand.tmp 219) 3, type := 4, pos := "laws.go:366", after := #[{ on := 4, ground := Ground.data }, { on := 7, ground := Ground.data }], guard := none }) (v := ?vms8) rfl (by kernel_rfl) (by kernel_rfl) (by kernel_rfl) (fun _ _ _ h => h) (Or.inl ⟨by rfl, ?hyms8⟩) hHeld ?_
        case hyms8 => (intro w hSw; (try dsimp only at hSw); go_simp <;> with_reducible rfl)
        try simp only [Act.put, List.setIfInBounds_toArray, List.set_cons_zero, List.set_cons_succ]
        refine wpAnyH_take (i := 9) (oi := { dst := some 221, op := Op.move (Operand.tmp 220), type := 4, pos := "laws.go:366", after := #[{ on := 8, ground := Ground.data }, { on := 6, ground := Ground.chain }], guard := none }) (v := ?vms9) rfl (by kernel_rfl) (by kernel_rfl) (by kernel_rfl) (fun _ _ _ h => h) (Or.inl ⟨by rfl, ?hyms9⟩) hHeld ?_
        case hyms9 => (intro w hSw; (try dsimp only at hSw); go_simp <;> with_reducible rfl)
        try simp only [Act.put, List.setIfInBounds_toArray, List.set_cons_zero, List.set_cons_succ]
        refine wpAnyH_take (i := 10) (oi := { dst := some 222, op := Op.fieldAddr 26 (Operand.tmp 17) 1, type := 0, pos := "laws.go:366", after := #[{ on := 9, ground := Ground.guard }], guard := some (9, true) }) (v := ?vms10) rfl (by kernel_rfl) (by kernel_rfl) (by kernel_rfl) (fun _ _ _ h => h) (Or.inl ⟨by rfl, ?hyms10⟩) hHeld ?_
        case hyms10 => (intro w hSw; (try dsimp only at hSw); go_simp <;> with_reducible rfl)
        try simp only [Act.put, List.setIfInBounds_toArray, List.set_cons_zero, List.set_cons_succ]
        refine wpAnyH_take (i := 11) (oi := { dst := some 223, op := Op.load 3 (Operand.tmp 222), type := 3, pos := "laws.go:366", after := #[{ on := 10, ground := Ground.data }, { on := 9, ground := Ground.guard }], guard := some (9, true) }) (v := ?vms11) rfl (by kernel_rfl) (by kernel_rfl) (by kernel_rfl) (fun _ _ _ h => h) (Or.inl ⟨by rfl, ?hyms11⟩) hHeld ?_
        case hyms11 => (intro w hSw; (try dsimp only at hSw); go_simp <;> with_reducible rfl)
        try simp only [Act.put, List.setIfInBounds_toArray, List.set_cons_zero, List.set_cons_succ]
        refine wpAnyH_take (i := 12) (oi := { dst := some 224, op := Op.fieldAddr 26 (Operand.tmp 15) 1, type := 0, pos := "laws.go:366", after := #[{ on := 9, ground := Ground.guard }], guard := some (9, true) }) (v := ?vms12) rfl (by kernel_rfl) (by kernel_rfl) (by kernel_rfl) (fun _ _ _ h => h) (Or.inl ⟨by rfl, ?hyms12⟩) hHeld ?_
        case hyms12 => (intro w hSw; (try dsimp only at hSw); go_simp <;> with_reducible rfl)
        try simp only [Act.put, List.setIfInBounds_toArray, List.set_cons_zero, List.set_cons_succ]
        refine wpAnyH_take (i := 13) (oi := { dst := some 225, op := Op.load 3 (Operand.tmp 224), type := 3, pos := "laws.go:366", after := #[{ on := 12, ground := Ground.data }, { on := 9, ground := Ground.guard }], guard := some (9, true) }) (v := ?vms13) rfl (by kernel_rfl) (by kernel_rfl) (by kernel_rfl) (fun _ _ _ h => h) (Or.inl ⟨by rfl, ?hyms13⟩) hHeld ?_
        case hyms13 => (intro w hSw; (try dsimp only at hSw); go_simp <;> with_reducible rfl)
        try simp only [Act.put, List.setIfInBounds_toArray, List.set_cons_zero, List.set_cons_succ]
        refine wpAnyH_take (i := 14) (oi := { dst := some 226, op := Op.binOp BinOp.neq 3 (Operand.tmp 223) (Operand.tmp 225) 3, type := 4, pos := "laws.go:366", after := #[{ on := 11, ground := Ground.data }, { on := 13, ground := Ground.data }, { on := 9, ground := Ground.guard }], guard := some (9, true) }) (v := ?vms14) rfl (by kernel_rfl) (by kernel_rfl) (by kernel_rfl) (fun _ _ _ h => h) (Or.inl ⟨by rfl, ?hyms14⟩) hHeld ?_
        case hyms14 => (intro w hSw; (try dsimp only at hSw); go_simp <;> with_reducible rfl)
        try simp only [Act.put, List.setIfInBounds_toArray, List.set_cons_zero, List.set_cons_succ]
        refine wpAnyH_take (i := 15) (oi := { dst := some 227, op := Op.move (Operand.tmp 18), type := 40, pos := "laws.go:366", after := #[{ on := 9, ground := Ground.guard }], guard := some (9, true) }) (v := ?vms15) rfl (by kernel_rfl) (by kernel_rfl) (by kernel_rfl) (fun _ _ _ h => h) (Or.inl ⟨by rfl, ?hyms15⟩) hHeld ?_
        case hyms15 => (intro w hSw; (try dsimp only at hSw); go_simp <;> with_reducible rfl)
        try simp only [Act.put, List.setIfInBounds_toArray, List.set_cons_zero, List.set_cons_succ]
        refine wpAnyH_take (i := 16) (oi := { dst := some 228, op := Op.call { callee := Callee.builtin Builtin.len, args := #[Operand.tmp 227], argTypes := #[40] }, type := 3, pos := "laws.go:366", after := #[{ on := 15, ground := Ground.data }, { on := 9, ground := Ground.guard }], guard := some (9, true) }) (v := ?vms16) rfl (by kernel_rfl) (by kernel_rfl) (by kernel_rfl) (fun _ _ _ h => h) (Or.inl ⟨by rfl, ?hyms16⟩) hHeld ?_
        case hyms16 => (intro w hSw; (try dsimp only at hSw); go_simp <;> with_reducible rfl)
        try simp only [Act.put, List.setIfInBounds_toArray, List.set_cons_zero, List.set_cons_succ]
        refine wpAnyH_take (i := 17) (oi := { dst := some 229, op := Op.binOp BinOp.gtr 3 (Operand.tmp 228) (Operand.const (Value.int IntKind.i64 0)) 3, type := 4, pos := "laws.go:366", after := #[{ on := 16, ground := Ground.data }, { on := 9, ground := Ground.guard }], guard := some (9, true) }) (v := ?vms17) rfl (by kernel_rfl) (by kernel_rfl) (by kernel_rfl) (fun _ _ _ h => h) (Or.inl ⟨by rfl, ?hyms17⟩) hHeld ?_
        case hyms17 => (intro w hSw; (try dsimp only at hSw); go_simp <;> with_reducible rfl)
        try simp only [Act.put, List.setIfInBounds_toArray, List.set_cons_zero, List.set_cons_succ]
        refine wpAnyH_take (i := 18) (oi := { dst := some 230, op := Op.binOp BinOp.eql 4 (Operand.tmp 226) (Operand.tmp 229) 4, type := 4, pos := "laws.go:366", after := #[{ on := 14, ground := Ground.data }, { on := 17, ground := Ground.data }, { on := 9, ground := Ground.guard }], guard := some (9, true) }) (v := ?vms18) rfl (by kernel_rfl) (by kernel_rfl) (by kernel_rfl) (fun _ _ _ h => h) (Or.inl ⟨by rfl, ?hyms18⟩) hHeld ?_
        case hyms18 => (intro w hSw; (try dsimp only at hSw); go_simp <;> with_reducible rfl)
        try simp only [Act.put, List.setIfInBounds_toArray, List.set_cons_zero, List.set_cons_succ]
        refine wpAnyH_take (i := 19) (oi := { dst := some 231, op := Op.pick (Operand.tmp 221) (Operand.tmp 230) (Operand.const (Value.bool false)), type := 4, pos := "laws.go:366", after := #[{ on := 9, ground := Ground.data }, { on := 18, ground := Ground.data }], guard := none }) (v := ?vms19) rfl (by kernel_rfl) (by kernel_rfl) (by kernel_rfl) (fun _ _ _ h => h) (Or.inl ⟨by rfl, ?hyms19⟩) hHeld ?_
        case hyms19 => (intro w hSw; (try dsimp only at hSw); go_simp <;> with_reducible rfl)
        try simp only [Act.put, List.setIfInBounds_toArray, List.set_cons_zero, List.set_cons_succ]
        refine wpAnyH_take (i := 20) (oi := { dst := some 232, op := Op.move (Operand.tmp 231), type := 4, pos := "laws.go:366", after := #[{ on := 19, ground := Ground.data }, { on := 9, ground := Ground.chain }], guard := none }) (v := ?vms20) rfl (by kernel_rfl) (by kernel_rfl) (by kernel_rfl) (fun _ _ _ h => h) (Or.inl ⟨by rfl, ?hyms20⟩) hHeld ?_
        case hyms20 => (intro w hSw; (try dsimp only at hSw); go_simp <;> with_reducible rfl)
        try simp only [Act.put, List.setIfInBounds_toArray, List.set_cons_zero, List.set_cons_succ]
        refine wpAnyH_take (i := 21) (oi := { dst := some 233, op := Op.load 26 (Operand.tmp 15), type := 26, pos := "laws.go:366", after := #[{ on := 20, ground := Ground.guard }], guard := some (20, true) }) (v := ?vms21) rfl (by kernel_rfl) (by kernel_rfl) (by kernel_rfl) (fun _ _ _ h => h) (Or.inl ⟨by rfl, ?hyms21⟩) hHeld ?_
        case hyms21 => (intro w hSw; (try dsimp only at hSw); go_simp <;> with_reducible rfl)
        try simp only [Act.put, List.setIfInBounds_toArray, List.set_cons_zero, List.set_cons_succ]
        refine wpAnyH_take (i := 23) (oi := { dst := some 235, op := Op.load 26 (Operand.tmp 15), type := 26, pos := "laws.go:366", after := #[{ on := 20, ground := Ground.guard }], guard := some (20, true) }) (v := ?vms23) rfl (by kernel_rfl) (by kernel_rfl) (by kernel_rfl) (fun _ _ _ h => h) (Or.inl ⟨by rfl, ?hyms23⟩) hHeld ?_
        case hyms23 => (intro w hSw; (try dsimp only at hSw); go_simp <;> with_reducible rfl)
        try simp only [Act.put, List.setIfInBounds_toArray, List.set_cons_zero, List.set_cons_succ]
        refine wpAnyH_ready (rs := [22]) (by kernel_rfl) (by simp) ?_
        refine AllReadyH.cons (o := { dst := some 234, op := Op.call { callee := Callee.value (Operand.func 26), args := #[Operand.tmp 233], argTypes := #[26] }, type := 40, pos := "laws.go:366", after := #[{ on := 21, ground := Ground.data }, { on := 20, ground := Ground.chain }, { on := 20, ground := Ground.guard }], guard := some (20, true) }) rfl (fun K hK => ?_) AllReadyH.nil
        go_simp
        refine (AI.out _ hHeld.1).mono ?_
        rintro r wc22 ⟨⟨M22, c22, rfl, hr22⟩, hy⟩
        have HK22 : Hid (RdN wc22 (some ⟨M22, 0, none⟩) AR) := hr22
        have hz : Below wr.heap.size wr wc22 := grow_on hHeld.1 hy
        clear hHeld hy hr22
        refine hK.out _ _ (HS.out _ hz) (fun hHeld => ?_)
        clear hK K hz
        try simp only [Act.put, List.setIfInBounds_toArray, List.set_cons_zero, List.set_cons_succ]
        refine wpAnyH_ready (rs := [24]) (by kernel_rfl) (by simp) ?_
        refine AllReadyH.cons (o := { dst := some 236, op := Op.call { callee := Callee.value (Operand.func 28), args := #[Operand.tmp 235], argTypes := #[26] }, type := 40, pos := "laws.go:366", after := #[{ on := 23, ground := Ground.data }, { on := 22, ground := Ground.chain }, { on := 20, ground := Ground.guard }], guard := some (20, true) }) rfl (fun K hK => ?_) AllReadyH.nil
        go_simp
        refine (AS.out _ hHeld.1).mono ?_
        rintro r wc24 ⟨⟨M24, c24, rfl, hr24⟩, hy⟩
        have HK24 : Hid (RdN wc24 (some ⟨M24, 0, none⟩) AR ∧ RdN wc24 (some ⟨M22, 0, none⟩) AR) := ⟨hr24, HK22.out.below hy⟩
        have hz : Below wr.heap.size wr wc24 := grow_on hHeld.1 hy
        clear hHeld hy hr24
        refine hK.out _ _ (HS.out _ hz) (fun hHeld => ?_)
        clear hK K hz
        try simp only [Act.put, List.setIfInBounds_toArray, List.set_cons_zero, List.set_cons_succ]
        refine wpAnyH_ready (rs := [25]) (by kernel_rfl) (by simp) ?_
        refine AllReadyH.cons (o := { dst := some 237, op := Op.call { callee := Callee.value (Operand.func 21), args := #[Operand.tmp 234, Operand.tmp 236], argTypes := #[40, 40] }, type := 4, pos := "laws.go:366", after := #[{ on := 22, ground := Ground.data }, { on := 24, ground := Ground.data }, { on := 24, ground := Ground.chain }, { on := 20, ground := Ground.guard }], guard := some (20, true) }) rfl (fun K hK => ?_) AllReadyH.nil
        go_simp
        refine (SL.out _ _ _ _ _ HK24.out.2 HK24.out.1).mono ?_
        rintro r wc25 ⟨rfl, hy⟩
        have hz : Below wr.heap.size wr wc25 := grow_on hHeld.1 hy
        clear hHeld hy
        refine hK.out _ _ (HS.out _ hz) (fun hHeld => ?_)
        clear hK K hz
        try simp only [Act.put, List.setIfInBounds_toArray, List.set_cons_zero, List.set_cons_succ]
        refine wpAnyH_take (i := 26) (oi := { dst := some 238, op := Op.pick (Operand.tmp 232) (Operand.tmp 237) (Operand.const (Value.bool false)), type := 4, pos := "laws.go:366", after := #[{ on := 20, ground := Ground.data }, { on := 25, ground := Ground.data }], guard := none }) (v := ?vms26) rfl (by kernel_rfl) (by kernel_rfl) (by kernel_rfl) (fun _ _ _ h => h) (Or.inl ⟨by rfl, ?hyms26⟩) hHeld ?_
        case hyms26 => (intro w hSw; (try dsimp only at hSw); go_simp <;> with_reducible rfl)
        try simp only [Act.put, List.setIfInBounds_toArray, List.set_cons_zero, List.set_cons_succ]
        refine wpAnyH_take (i := 27) (oi := { dst := some 2, op := Op.assign (Operand.tmp 238), type := 4, pos := "laws.go:366", after := #[{ on := 26, ground := Ground.data }, { on := 25, ground := Ground.chain }, { on := 0, ground := Ground.phase }, { on := 1, ground := Ground.phase }, { on := 2, ground := Ground.phase }, { on := 3, ground := Ground.phase }, { on := 4, ground := Ground.phase }, { on := 5, ground := Ground.phase }, { on := 6, ground := Ground.phase }, { on := 7, ground := Ground.phase }, { on := 8, ground := Ground.phase }, { on := 9, ground := Ground.phase }, { on := 10, ground := Ground.phase }, { on := 11, ground := Ground.phase }, { on := 12, ground := Ground.phase }, { on := 13, ground := Ground.phase }, { on := 14, ground := Ground.phase }, { on := 15, ground := Ground.phase }, { on := 16, ground := Ground.phase }, { on := 17, ground := Ground.phase }, { on := 18, ground := Ground.phase }, { on := 19, ground := Ground.phase }, { on := 20, ground := Ground.phase }, { on := 21, ground := Ground.phase }, { on := 22, ground := Ground.phase }, { on := 23, ground := Ground.phase }, { on := 24, ground := Ground.phase }, { on := 25, ground := Ground.phase }, { on := 26, ground := Ground.phase }], guard := none }) (v := ?vms27) rfl (by kernel_rfl) (by kernel_rfl) (by kernel_rfl) (fun _ _ _ h => h) (Or.inl ⟨by rfl, ?hyms27⟩) hHeld ?_
        case hyms27 => (intro w hSw; (try dsimp only at hSw); go_simp <;> with_reducible rfl)
        try simp only [Act.put, List.setIfInBounds_toArray, List.set_cons_zero, List.set_cons_succ]
        refine wpAnyH_done (by kernel_rfl) ?_ _
        go_wp2
        go_ret
        refine ⟨?_, grow_on HBw.out hHeld.1⟩
        first | rfl | simp
  ·
    have en : nu = false := EQ.out.2.1.symm.trans h2
    subst en
    have EF : Hid (findD P x.l = y ∧ (findB P x.l).isSome = true ∧ findD Q x.l = (⟨x.l, startB y.s y.e x.s x.e, x.e, x.n⟩ : PAl) ∧ (findB Q x.l).isSome = true) := by
      have h4 : findB Q x.l = some (⟨x.l, startB y.s y.e x.s x.e, x.e, x.n⟩ : PAl) := by rw [← EQ.out.1]; exact h3
      exact ⟨by unfold findD; rw [h1]; rfl, by rw [h1]; rfl, by unfold findD; rw [h4]; rfl, by rw [h4]; rfl⟩
    have FY : Hid (Fine y) := by
      have h5 := fine_find FP.out.1 x.l
      rw [EF.out.1] at h5
      exact h5
    clear h1 h2 h3
    have cbP0 : zz.cell? ⟨w1.heap.size, 0, none⟩ = some (.int .i64 hp) := bP_zz.out.cell 0
    have cbP1 : zz.cell? ⟨w1.heap.size, 1, none⟩ = some (.int .i64 vp) := bP_zz.out.cell 1
    have cbP2 : zz.cell? ⟨w1.heap.size, 2, none⟩ = some (.slice aP P.length cp) := bP_zz.out.cell 2
    have cbA0 : zz.cell? ⟨(w1.heap.size + 1), 0, none⟩ = some (.slice (some ⟨ga, 0, none⟩) x.l.length ca) := bA_zz.out.cell 0
    have cbA1 : zz.cell? ⟨(w1.heap.size + 1), 1, none⟩ = some (.int .i64 x.s) := bA_zz.out.cell 1
    have cbA2 : zz.cell? ⟨(w1.heap.size + 1), 2, none⟩ = some (.int .i64 x.e) := bA_zz.out.cell 2
    have cbA3 : zz.cell? ⟨(w1.heap.size + 1), 3, none⟩ = some (.string x.n) := bA_zz.out.cell 3
    go_wp2_with fail
    refine (implFindR hp vp aP _ cp ca P x.l _ DP_zz.out DX_zz.out.1 FP.out.2.2.1.2 FP.out.2.2.1.1.fits EF.out.1 EF.out.2.1).mono ?_
    rintro e w22 ⟨⟨bo, co', rfl, hr⟩, hb⟩
    clear cbP0 cbP1 cbP2 cbA0 cbA1 cbA2 cbA3
    clear hr
    have B_w22 : Hid (Below w.heap.size w w22) := grow_on B_zz.out hb
    have DP_w22 : Hid (Pt w22 aP P) := DP_zz.out.below hb
    have DX_w22 : Hid (DAl w22 ga x) := DX_zz.out.below hb
    have bP_w22 : Hid (Blk w22 w1.heap.size #[.int .i64 hp, .int .i64 vp, .slice aP P.length cp] 26) := bP_zz.out.grow hb
    have bA_w22 : Hid (Blk w22 (w1.heap.size + 1) #[.slice (some ⟨ga, 0, none⟩) x.l.length ca, .int .i64 x.s, .int .i64 x.e, .string x.n] 29) := bA_zz.out.grow hb
    have RX_w22 : Hid (Pt w22 (some ⟨Mx, 0, none⟩) Q) := RX_zz.out.below hb
    have bX_w22 : Hid (Blk w22 w2.heap.size #[.int .i64 hp, .int .i64 vu, .slice (some ⟨Mx, 0, none⟩) Q.length cx] 26) := bX_zz.out.grow hb
    have DR_w22 : Hid (Pt w22 aR R) := DR_zz.out.below hb
    have bR_w22 : Hid (Blk w22 w7.heap.size #[.int .i64 hr0, .int .i64 vr0, .slice aR R.length cr] 26) := bR_zz.out.grow hb
    have RS_w22 : Hid (Pt w22 (some ⟨Ms, 0, none⟩) SW) := RS_zz.out.below hb
    have RG_w22 : Hid (RdN w22 (some ⟨Mg, 0, none⟩) GO) := RG_zz.out.below hb
    have bS_w22 : Hid (Blk w22 w8.heap.size #[.int .i64 hr0, .int .i64 vs, .slice (some ⟨Ms, 0, none⟩) SW.length cs] 26) := bS_zz.out.grow hb
    clear B_zz DP_zz DX_zz bP_zz bA_zz RX_zz bX_zz DR_zz bR_zz RS_zz RG_zz bS_zz
    clear hb
    go_upto_region 17 with fail
    generalize hz : w22.alloc (.cells #[.slice bo y.l.length co', .int .i64 y.s, .int .i64 y.e, .string y.n] 29) = z22
    have hbz : Below w22.heap.size w22 z22 := by rw [← hz]; exact Go.Joins.below_alloc1 w22 _
    have bOld_z22 : Hid (Blk z22 w22.heap.size #[.slice bo y.l.length co', .int .i64 y.s, .int .i64 y.e, .string y.n] 29) := by rw [← hz]; exact (Blk.new _ _ _)
    clear hz
    have B_z22 : Hid (Below w.heap.size w z22) := grow_on B_w22.out hbz
    have DP_z22 : Hid (Pt z22 aP P) := DP_w22.out.below hbz
    have DX_z22 : Hid (DAl z22 ga x) := DX_w22.out.below hbz
    have bP_z22 : Hid (Blk z22 w1.heap.size #[.int .i64 hp, .int .i64 vp, .slice aP P.length cp] 26) := bP_w22.out.grow hbz
    have bA_z22 : Hid (Blk z22 (w1.heap.size + 1) #[.slice (some ⟨ga, 0, none⟩) x.l.length ca, .int .i64 x.s, .int .i64 x.e, .string x.n] 29) := bA_w22.out.grow hbz
    have RX_z22 : Hid (Pt z22 (some ⟨Mx, 0, none⟩) Q) := RX_w22.out.below hbz
    have bX_z22 : Hid (Blk z22 w2.heap.size #[.int .i64 hp, .int .i64 vu, .slice (some ⟨Mx, 0, none⟩) Q.length cx] 26) := bX_w22.out.grow hbz
    have DR_z22 : Hid (Pt z22 aR R) := DR_w22.out.below hbz
    have bR_z22 : Hid (Blk z22 w7.heap.size #[.int .i64 hr0, .int .i64 vr0, .slice aR R.length cr] 26) := bR_w22.out.grow hbz
    have RS_z22 : Hid (Pt z22 (some ⟨Ms, 0, none⟩) SW) := RS_w22.out.below hbz
    have RG_z22 : Hid (RdN z22 (some ⟨Mg, 0, none⟩) GO) := RG_w22.out.below hbz
    have bS_z22 : Hid (Blk z22 w8.heap.size #[.int .i64 hr0, .int .i64 vs, .slice (some ⟨Ms, 0, none⟩) SW.length cs] 26) := bS_w22.out.grow hbz
    clear B_w22 DP_w22 DX_w22 bP_w22 bA_w22 RX_w22 bX_w22 DR_w22 bR_w22 RS_w22 RG_w22 bS_w22
    clear hbz
    have cbX0 : z22.cell? ⟨w2.heap.size, 0, none⟩ = some (.int .i64 hp) := bX_z22.out.cell 0
    have cbX1 : z22.cell? ⟨w2.heap.size, 1, none⟩ = some (.int .i64 vu) := bX_z22.out.cell 1
    have cbX2 : z22.cell? ⟨w2.heap.size, 2, none⟩ = some (.slice (some ⟨Mx, 0, none⟩) Q.length cx) := bX_z22.out.cell 2
    have cbA0 : z22.cell? ⟨(w1.heap.size + 1), 0, none⟩ = some (.slice (some ⟨ga, 0, none⟩) x.l.length ca) := bA_z22.out.cell 0
    have cbA1 : z22.cell? ⟨(w1.heap.size + 1), 1, none⟩ = some (.int .i64 x.s) := bA_z22.out.cell 1
    have cbA2 : z22.cell? ⟨(w1.heap.size + 1), 2, none⟩ = some (.int .i64 x.e) := bA_z22.out.cell 2
    have cbA3 : z22.cell? ⟨(w1.heap.size + 1), 3, none⟩ = some (.string x.n) := bA_z22.out.cell 3
    go_wp2_with fail
    refine ((implFindR hp vu _ _ cx ca Q x.l _ RX_z22.out DX_z22.out.1 FP.out.2.2.1.2 FP.out.2.2.1.1.fits EF.out.2.2.1 EF.out.2.2.2)).mono ?_
    rintro e w23 ⟨⟨bz, cz, rfl, hr⟩, hb⟩
    clear cbX0 cbX1 cbX2 cbA0 cbA1 cbA2 cbA3
    have NRZ : Hid (Reads w23 bz x.l) := hr
    have B_w23 : Hid (Below w.heap.size w w23) := grow_on B_z22.out hb
    have DP_w23 : Hid (Pt w23 aP P) := DP_z22.out.below hb
    have DX_w23 : Hid (DAl w23 ga x) := DX_z22.out.below hb
    have bP_w23 : Hid (Blk w23 w1.heap.size #[.int .i64 hp, .int .i64 vp, .slice aP P.length cp] 26) := bP_z22.out.grow hb
    have bA_w23 : Hid (Blk w23 (w1.heap.size + 1) #[.slice (some ⟨ga, 0, none⟩) x.l.length ca, .int .i64 x.s, .int .i64 x.e, .string x.n] 29) := bA_z22.out.grow hb
    have RX_w23 : Hid (Pt w23 (some ⟨Mx, 0, none⟩) Q) := RX_z22.out.below hb
    have bX_w23 : Hid (Blk w23 w2.heap.size #[.int .i64 hp, .int .i64 vu, .slice (some ⟨Mx, 0, none⟩) Q.length cx] 26) := bX_z22.out.grow hb
    have DR_w23 : Hid (Pt w23 aR R) := DR_z22.out.below hb
    have bR_w23 : Hid (Blk w23 w7.heap.size #[.int .i64 hr0, .int .i64 vr0, .slice aR R.length cr] 26) := bR_z22.out.grow hb
    have RS_w23 : Hid (Pt w23 (some ⟨Ms, 0, none⟩) SW) := RS_z22.out.below hb
    have RG_w23 : Hid (RdN w23 (some ⟨Mg, 0, none⟩) GO) := RG_z22.out.below hb
    have bS_w23 : Hid (Blk w23 w8.heap.size #[.int .i64 hr0, .int .i64 vs, .slice (some ⟨Ms, 0, none⟩) SW.length cs] 26) := bS_z22.out.grow hb
    have bOld_w23 : Hid (Blk w23 w22.heap.size #[.slice bo y.l.length co', .int .i64 y.s, .int .i64 y.e, .string y.n] 29) := bOld_z22.out.grow hb
    clear B_z22 DP_z22 DX_z22 bP_z22 bA_z22 RX_z22 bX_z22 DR_z22 bR_z22 RS_z22 RG_z22 bS_z22 bOld_z22
    have RZ_w23 : Hid (Reads w23 bz x.l) := NRZ.out
    clear NRZ
    clear hb
    go_upto_region 18 with fail
    generalize hz : w23.alloc (.cells #[.slice bz x.l.length cz, .int .i64 (startB y.s y.e x.s x.e), .int .i64 x.e, .string x.n] 29) = z23
    have hbz : Below w23.heap.size w23 z23 := by rw [← hz]; exact Go.Joins.below_alloc1 w23 _
    have bZ_z23 : Hid (Blk z23 w23.heap.size #[.slice bz x.l.length cz, .int .i64 (startB y.s y.e x.s x.e), .int .i64 x.e, .string x.n] 29) := by rw [← hz]; exact (Blk.new _ _ _)
    clear hz
    have B_z23 : Hid (Below w.heap.size w z23) := grow_on B_w23.out hbz
    have DP_z23 : Hid (Pt z23 aP P) := DP_w23.out.below hbz
    have DX_z23 : Hid (DAl z23 ga x) := DX_w23.out.below hbz
    have bP_z23 : Hid (Blk z23 w1.heap.size #[.int .i64 hp, .int .i64 vp, .slice aP P.length cp] 26) := bP_w23.out.grow hbz
    have bA_z23 : Hid (Blk z23 (w1.heap.size + 1) #[.slice (some ⟨ga, 0, none⟩) x.l.length ca, .int .i64 x.s, .int .i64 x.e, .string x.n] 29) := bA_w23.out.grow hbz
    have RX_z23 : Hid (Pt z23 (some ⟨Mx, 0, none⟩) Q) := RX_w23.out.below hbz
    have bX_z23 : Hid (Blk z23 w2.heap.size #[.int .i64 hp, .int .i64 vu, .slice (some ⟨Mx, 0, none⟩) Q.length cx] 26) := bX_w23.out.grow hbz
    have DR_z23 : Hid (Pt z23 aR R) := DR_w23.out.below hbz
    have bR_z23 : Hid (Blk z23 w7.heap.size #[.int .i64 hr0, .int .i64 vr0, .slice aR R.length cr] 26) := bR_w23.out.grow hbz
    have RS_z23 : Hid (Pt z23 (some ⟨Ms, 0, none⟩) SW) := RS_w23.out.below hbz
    have RG_z23 : Hid (RdN z23 (some ⟨Mg, 0, none⟩) GO) := RG_w23.out.below hbz
    have bS_z23 : Hid (Blk z23 w8.heap.size #[.int .i64 hr0, .int .i64 vs, .slice (some ⟨Ms, 0, none⟩) SW.length cs] 26) := bS_w23.out.grow hbz
    have bOld_z23 : Hid (Blk z23 w22.heap.size #[.slice bo y.l.length co', .int .i64 y.s, .int .i64 y.e, .string y.n] 29) := bOld_w23.out.grow hbz
    have RZ_z23 : Hid (Reads z23 bz x.l) := RZ_w23.out.below hbz
    clear B_w23 DP_w23 DX_w23 bP_w23 bA_w23 RX_w23 bX_w23 DR_w23 bR_w23 RS_w23 RG_w23 bS_w23 bOld_w23 RZ_w23
    clear hbz
    have HS : Hid (∀ w', Below z23.heap.size z23 w' → Below z23.heap.size z23 w' ∧ w'.cell? ⟨w1.heap.size, 0, none⟩ = some (.int .i64 hp) ∧ w'.cell? ⟨w1.heap.size, 1, none⟩ = some (.int .i64 vp) ∧ w'.cell? ⟨w1.heap.size, 2, none⟩ = some (.slice aP P.length cp) ∧ w'.cell? ⟨(w1.heap.size + 1), 0, none⟩ = some (.slice (some ⟨ga, 0, none⟩) x.l.length ca) ∧ w'.cell? ⟨(w1.heap.size + 1), 1, none⟩ = some (.int .i64 x.s) ∧ w'.cell? ⟨(w1.heap.size + 1), 2, none⟩ = some (.int .i64 x.e) ∧ w'.cell? ⟨(w1.heap.size + 1), 3, none⟩ = some (.string x.n) ∧ w'.cell? ⟨w2.heap.size, 0, none⟩ = some (.int .i64 hp) ∧ w'.cell? ⟨w2.heap.size, 1, none⟩ = some (.int .i64 vu) ∧ w'.cell? ⟨w2.heap.size, 2, none⟩ = some (.slice (some ⟨Mx, 0, none⟩) Q.length cx) ∧ w'.cell? ⟨w22.heap.size, 0, none⟩ = some (.slice bo y.l.length co') ∧ w'.cell? ⟨w22.heap.size, 1, none⟩ = some (.int .i64 y.s) ∧ w'.cell? ⟨w22.heap.size, 2, none⟩ = some (.int .i64 y.e) ∧ w'.cell? ⟨w22.heap.size, 3, none⟩ = some (.string y.n) ∧ w'.cell? ⟨w23.heap.size, 0, none⟩ = some (.slice bz x.l.length cz) ∧ w'.cell? ⟨w23.heap.size, 1, none⟩ = some (.int .i64 (startB y.s y.e x.s x.e)) ∧ w'.cell? ⟨w23.heap.size, 2, none⟩ = some (.int .i64 x.e) ∧ w'.cell? ⟨w23.heap.size, 3, none⟩ = some (.string x.n)) := fun w' h => ⟨h, (bP_z23.out.grow h).cell 0, (bP_z23.out.grow h).cell 1, (bP_z23.out.grow h).cell 2, (bA_z23.out.grow h).cell 0, (bA_z23.out.grow h).cell 1, (bA_z23.out.grow h).cell 2, (bA_z23.out.grow h).cell 3, (bX_z23.out.grow h).cell 0, (bX_z23.out.grow h).cell 1, (bX_z23.out.grow h).cell 2, (bOld_z23.out.grow h).cell 0, (bOld_z23.out.grow h).cell 1, (bOld_z23.out.grow h).cell 2, (bOld_z23.out.grow h).cell 3, (bZ_z23.out.grow h).cell 0, (bZ_z23.out.grow h).cell 1, (bZ_z23.out.grow h).cell 2, (bZ_z23.out.grow h).cell 3⟩
    have kz : Below z23.heap.size z23 z23.drew := (Below.refl _ _).drew
    have hw1 : IntKind.i64.wrap (vp + 1) = vu := EQ.out.2.2
    have hw2 : (vu != vu) = false := by simp
    have MG : Hid (∀ (u : World), Below z23.heap.size z23 u → Calls Tryz.prog 25 #[.agg #[.slice bo y.l.length co', .int .i64 y.s, .int .i64 y.e, .string y.n], .agg #[.slice (some ⟨ga, 0, none⟩) x.l.length ca, .int .i64 x.s, .int .i64 x.e, .string x.n]] u fun r w' => (∃ M' c', r = .returned (.agg #[.slice (some ⟨M', 0, none⟩) x.l.length c', .int .i64 (startB y.s y.e x.s x.e), .int .i64 x.e, .string x.n]) ∧ LabR.Own u w' M' x.l) ∧ Below u.heap.size u w') := fun u hu => implMerge_any _ _ _ _ _ _ _ _ _ _ _ _ _ u (DX_z23.out.1.below hu) (by have := FP.out.2.2.1.2; omega)
    have SMX : Hid (∀ (u : World) (M' c' : Nat), Below z23.heap.size z23 u → Reads u (some ⟨M', 0, none⟩) x.l → Calls Tryz.prog 20 #[.agg #[.slice bz x.l.length cz, .int .i64 (startB y.s y.e x.s x.e), .int .i64 x.e, .string x.n], .agg #[.slice (some ⟨M', 0, none⟩) x.l.length c', .int .i64 (startB y.s y.e x.s x.e), .int .i64 x.e, .string x.n]] u fun r w' => r = .returned (.bool true) ∧ Below u.heap.size u w') := fun u M' c' hu hr => (implSameA_any _ _ _ _ x.l x.l _ _ _ _ _ _ u (RZ_z23.out.below hu) hr (fine_max FP.out.2.2.1) (fine_max FP.out.2.2.1)).mono fun e w' h => ⟨h.1.trans (retB (Alm.same_self _ _ _ _)), h.2⟩
    refine wp_region_held_drew (S := fun w' => Below z23.heap.size z23 w' ∧ w'.cell? ⟨w1.heap.size, 0, none⟩ = some (.int .i64 hp) ∧ w'.cell? ⟨w1.heap.size, 1, none⟩ = some (.int .i64 vp) ∧ w'.cell? ⟨w1.heap.size, 2, none⟩ = some (.slice aP P.length cp) ∧ w'.cell? ⟨(w1.heap.size + 1), 0, none⟩ = some (.slice (some ⟨ga, 0, none⟩) x.l.length ca) ∧ w'.cell? ⟨(w1.heap.size + 1), 1, none⟩ = some (.int .i64 x.s) ∧ w'.cell? ⟨(w1.heap.size + 1), 2, none⟩ = some (.int .i64 x.e) ∧ w'.cell? ⟨(w1.heap.size + 1), 3, none⟩ = some (.string x.n) ∧ w'.cell? ⟨w2.heap.size, 0, none⟩ = some (.int .i64 hp) ∧ w'.cell? ⟨w2.heap.size, 1, none⟩ = some (.int .i64 vu) ∧ w'.cell? ⟨w2.heap.size, 2, none⟩ = some (.slice (some ⟨Mx, 0, none⟩) Q.length cx) ∧ w'.cell? ⟨w22.heap.size, 0, none⟩ = some (.slice bo y.l.length co') ∧ w'.cell? ⟨w22.heap.size, 1, none⟩ = some (.int .i64 y.s) ∧ w'.cell? ⟨w22.heap.size, 2, none⟩ = some (.int .i64 y.e) ∧ w'.cell? ⟨w22.heap.size, 3, none⟩ = some (.string y.n) ∧ w'.cell? ⟨w23.heap.size, 0, none⟩ = some (.slice bz x.l.length cz) ∧ w'.cell? ⟨w23.heap.size, 1, none⟩ = some (.int .i64 (startB y.s y.e x.s x.e)) ∧ w'.cell? ⟨w23.heap.size, 2, none⟩ = some (.int .i64 x.e) ∧ w'.cell? ⟨w23.heap.size, 3, none⟩ = some (.string x.n)) (by kernel_rfl) (HS.out _ kz) (fun hHeld => ?_)
    refine wpAnyH_take (i := 0) (oi := { dst := some 162, op := Op.move (Operand.tmp 29), type := 4, pos := "laws.go:357", after := #[], guard := none }) (v := ?vhr0) rfl (by kernel_rfl) (by kernel_rfl) (by kernel_rfl) (fun _ _ _ h => h) (Or.inl ⟨by rfl, ?hyhr0⟩) hHeld ?_
    case hyhr0 => (intro w hSw; (try dsimp only at hSw); go_simp <;> with_reducible rfl)
    try simp only [Act.put, List.setIfInBounds_toArray, List.set_cons_zero, List.set_cons_succ]
    refine wpAnyH_take (i := 1) (oi := { dst := some 163, op := Op.unOp UnOp.not 4 (Operand.tmp 162), type := 4, pos := "laws.go:357", after := #[{ on := 0, ground := Ground.data }], guard := none }) (v := ?vhr1) rfl (by kernel_rfl) (by kernel_rfl) (by kernel_rfl) (fun _ _ _ h => h) (Or.inl ⟨by rfl, ?hyhr1⟩) hHeld ?_
    case hyhr1 => (intro w hSw; (try dsimp only at hSw); go_simp <;> with_reducible rfl)
    try simp only [Act.put, List.setIfInBounds_toArray, List.set_cons_zero, List.set_cons_succ]
    refine wpAnyH_take (i := 2) (oi := { dst := some 164, op := Op.move (Operand.tmp 163), type := 4, pos := "laws.go:357", after := #[{ on := 1, ground := Ground.data }], guard := none }) (v := ?vhr2) rfl (by kernel_rfl) (by kernel_rfl) (by kernel_rfl) (fun _ _ _ h => h) (Or.inl ⟨by rfl, ?hyhr2⟩) hHeld ?_
    case hyhr2 => (intro w hSw; (try dsimp only at hSw); go_simp <;> with_reducible rfl)
    try simp only [Act.put, List.setIfInBounds_toArray, List.set_cons_zero, List.set_cons_succ]
    refine wpAnyH_take (i := 3) (oi := { dst := some 165, op := Op.move (Operand.tmp 6), type := 4, pos := "laws.go:357", after := #[{ on := 2, ground := Ground.guard }], guard := some (2, false) }) (v := ?vhr3) rfl (by kernel_rfl) (by kernel_rfl) (by kernel_rfl) (fun _ _ _ h => h) (Or.inl ⟨by rfl, ?hyhr3⟩) hHeld ?_
    case hyhr3 => (intro w hSw; (try dsimp only at hSw); go_simp <;> with_reducible rfl)
    try simp only [Act.put, List.setIfInBounds_toArray, List.set_cons_zero, List.set_cons_succ]
    refine wpAnyH_take (i := 4) (oi := { dst := some 166, op := Op.move (Operand.tmp 27), type := 4, pos := "laws.go:357", after := #[{ on := 2, ground := Ground.guard }], guard := some (2, false) }) (v := ?vhr4) rfl (by kernel_rfl) (by kernel_rfl) (by kernel_rfl) (fun _ _ _ h => h) (Or.inl ⟨by rfl, ?hyhr4⟩) hHeld ?_
    case hyhr4 => (intro w hSw; (try dsimp only at hSw); go_simp <;> with_reducible rfl)
    try simp only [Act.put, List.setIfInBounds_toArray, List.set_cons_zero, List.set_cons_succ]
    refine wpAnyH_take (i := 5) (oi := { dst := some 167, op := Op.binOp BinOp.eql 4 (Operand.tmp 165) (Operand.tmp 166) 4, type := 4, pos := "laws.go:357", after := #[{ on := 3, ground := Ground.data }, { on := 4, ground := Ground.data }, { on := 2, ground := Ground.guard }], guard := some (2, false) }) (v := ?vhr5) rfl (by kernel_rfl) (by kernel_rfl) (by kernel_rfl) (fun _ _ _ h => h) (Or.inl ⟨by rfl, ?hyhr5⟩) hHeld ?_
    case hyhr5 => (intro w hSw; (try dsimp only at hSw); go_simp <;> with_reducible rfl)
    try simp only [Act.put, List.setIfInBounds_toArray, List.set_cons_zero, List.set_cons_succ]
    refine wpAnyH_take (i := 6) (oi := { dst := some 168, op := Op.pick (Operand.tmp 164) (Operand.const (Value.bool true)) (Operand.tmp 167), type := 4, pos := "laws.go:357", after := #[{ on := 2, ground := Ground.data }, { on := 5, ground := Ground.data }], guard := none }) (v := ?vhr6) rfl (by kernel_rfl) (by kernel_rfl) (by kernel_rfl) (fun _ _ _ h => h) (Or.inl ⟨by rfl, ?hyhr6⟩) hHeld ?_
    case hyhr6 => (intro w hSw; (try dsimp only at hSw); go_simp <;> with_reducible rfl)
    try simp only [Act.put, List.setIfInBounds_toArray, List.set_cons_zero, List.set_cons_succ]
    refine wpAnyH_take (i := 7) (oi := { dst := some 169, op := Op.move (Operand.tmp 168), type := 4, pos := "laws.go:357", after := #[{ on := 6, ground := Ground.data }, { on := 2, ground := Ground.chain }], guard := none }) (v := ?vhr7) rfl (by kernel_rfl) (by kernel_rfl) (by kernel_rfl) (fun _ _ _ h => h) (Or.inl ⟨by rfl, ?hyhr7⟩) hHeld ?_
    case hyhr7 => (intro w hSw; (try dsimp only at hSw); go_simp <;> with_reducible rfl)
    try simp only [Act.put, List.setIfInBounds_toArray, List.set_cons_zero, List.set_cons_succ]
    refine wpAnyH_take (i := 8) (oi := { dst := some 170, op := Op.fieldAddr 26 (Operand.tmp 5) 1, type := 0, pos := "laws.go:357", after := #[{ on := 7, ground := Ground.guard }], guard := some (7, false) }) (v := ?vhr8) rfl (by kernel_rfl) (by kernel_rfl) (by kernel_rfl) (fun _ _ _ h => h) (Or.inl ⟨by rfl, ?hyhr8⟩) hHeld ?_
    case hyhr8 => (intro w hSw; (try dsimp only at hSw); go_simp <;> with_reducible rfl)
    try simp only [Act.put, List.setIfInBounds_toArray, List.set_cons_zero, List.set_cons_succ]
    refine wpAnyH_take (i := 9) (oi := { dst := some 171, op := Op.load 3 (Operand.tmp 170), type := 3, pos := "laws.go:357", after := #[{ on := 8, ground := Ground.data }, { on := 7, ground := Ground.guard }], guard := some (7, false) }) (v := ?vhr9) rfl (by kernel_rfl) (by kernel_rfl) (by kernel_rfl) (fun _ _ _ h => h) (Or.inl ⟨by rfl, ?hyhr9⟩) hHeld ?_
    case hyhr9 => (intro w hSw; (try dsimp only at hSw); go_simp <;> with_reducible rfl)
    try simp only [Act.put, List.setIfInBounds_toArray, List.set_cons_zero, List.set_cons_succ]
    refine wpAnyH_take (i := 10) (oi := { dst := some 172, op := Op.fieldAddr 26 (Operand.tmp 3) 1, type := 0, pos := "laws.go:357", after := #[{ on := 7, ground := Ground.guard }], guard := some (7, false) }) (v := ?vhr10) rfl (by kernel_rfl) (by kernel_rfl) (by kernel_rfl) (fun _ _ _ h => h) (Or.inl ⟨by rfl, ?hyhr10⟩) hHeld ?_
    case hyhr10 => (intro w hSw; (try dsimp only at hSw); go_simp <;> with_reducible rfl)
    try simp only [Act.put, List.setIfInBounds_toArray, List.set_cons_zero, List.set_cons_succ]
    refine wpAnyH_take (i := 11) (oi := { dst := some 173, op := Op.load 3 (Operand.tmp 172), type := 3, pos := "laws.go:357", after := #[{ on := 10, ground := Ground.data }, { on := 7, ground := Ground.guard }], guard := some (7, false) }) (v := ?vhr11) rfl (by kernel_rfl) (by kernel_rfl) (by kernel_rfl) (fun _ _ _ h => h) (Or.inl ⟨by rfl, ?hyhr11⟩) hHeld ?_
    case hyhr11 => (intro w hSw; (try dsimp only at hSw); go_simp <;> with_reducible rfl)
    try simp only [Act.put, List.setIfInBounds_toArray, List.set_cons_zero, List.set_cons_succ]
    refine wpAnyH_take (i := 12) (oi := { dst := some 174, op := Op.binOp BinOp.add 3 (Operand.tmp 173) (Operand.const (Value.int IntKind.i64 1)) 3, type := 3, pos := "laws.go:357", after := #[{ on := 11, ground := Ground.data }, { on := 7, ground := Ground.guard }], guard := some (7, false) }) (v := ?vhr12) rfl (by kernel_rfl) (by kernel_rfl) (by kernel_rfl) (fun _ _ _ h => h) (Or.inl ⟨by rfl, ?hyhr12⟩) hHeld ?_
    case hyhr12 => (intro w hSw; (try dsimp only at hSw); go_simp <;> with_reducible rfl)
    try simp only [Act.put, List.setIfInBounds_toArray, List.set_cons_zero, List.set_cons_succ]
    refine wpAnyH_take (i := 13) (oi := { dst := some 175, op := Op.binOp BinOp.neq 3 (Operand.tmp 171) (Operand.tmp 174) 3, type := 4, pos := "laws.go:357", after := #[{ on := 9, ground := Ground.data }, { on := 12, ground := Ground.data }, { on := 7, ground := Ground.guard }], guard := some (7, false) }) (v := ?vhr13) rfl (by kernel_rfl) (by kernel_rfl) (by kernel_rfl) (fun _ _ _ h => h) (Or.inl ⟨by rfl, ?hyhr13⟩) hHeld ?_
    case hyhr13 => (intro w hSw; (try dsimp only at hSw); go_simp <;> with_reducible rfl)
    try simp only [Act.put, List.setIfInBounds_toArray, List.set_cons_zero, List.set_cons_succ]
    refine wpAnyH_take (i := 14) (oi := { dst := some 176, op := Op.pick (Operand.tmp 169) (Operand.const (Value.bool true)) (Operand.tmp 175), type := 4, pos := "laws.go:357", after := #[{ on := 7, ground := Ground.data }, { on := 13, ground := Ground.data }], guard := none }) (v := ?vhr14) rfl (by kernel_rfl) (by kernel_rfl) (by kernel_rfl) (fun _ _ _ h => h) (Or.inl ⟨by rfl, ?hyhr14⟩) hHeld ?_
    case hyhr14 => (intro w hSw; (try dsimp only at hSw); go_simp <;> with_reducible rfl)
    try simp only [Act.put, List.setIfInBounds_toArray, List.set_cons_zero, List.set_cons_succ]
    refine wpAnyH_take (i := 15) (oi := { dst := some 177, op := Op.move (Operand.tmp 176), type := 4, pos := "laws.go:357", after := #[{ on := 14, ground := Ground.data }, { on := 7, ground := Ground.chain }], guard := none }) (v := ?vhr15) rfl (by kernel_rfl) (by kernel_rfl) (by kernel_rfl) (fun _ _ _ h => h) (Or.inl ⟨by rfl, ?hyhr15⟩) hHeld ?_
    case hyhr15 => (intro w hSw; (try dsimp only at hSw); go_simp <;> with_reducible rfl)
    try simp only [Act.put, List.setIfInBounds_toArray, List.set_cons_zero, List.set_cons_succ]
    refine wpAnyH_take (i := 16) (oi := { dst := some 178, op := Op.move (Operand.tmp 27), type := 4, pos := "laws.go:357", after := #[{ on := 15, ground := Ground.guard }], guard := some (15, false) }) (v := ?vhr16) rfl (by kernel_rfl) (by kernel_rfl) (by kernel_rfl) (fun _ _ _ h => h) (Or.inl ⟨by rfl, ?hyhr16⟩) hHeld ?_
    case hyhr16 => (intro w hSw; (try dsimp only at hSw); go_simp <;> with_reducible rfl)
    try simp only [Act.put, List.setIfInBounds_toArray, List.set_cons_zero, List.set_cons_succ]
    refine wpAnyH_take (i := 17) (oi := { dst := some 179, op := Op.move (Operand.tmp 178), type := 4, pos := "laws.go:357", after := #[{ on := 16, ground := Ground.data }, { on := 15, ground := Ground.chain }, { on := 15, ground := Ground.guard }], guard := some (15, false) }) (v := ?vhr17) rfl (by kernel_rfl) (by kernel_rfl) (by kernel_rfl) (fun _ _ _ h => h) (Or.inl ⟨by rfl, ?hyhr17⟩) hHeld ?_
    case hyhr17 => (intro w hSw; (try dsimp only at hSw); go_simp <;> with_reducible rfl)
    try simp only [Act.put, List.setIfInBounds_toArray, List.set_cons_zero, List.set_cons_succ]
    refine wpAnyH_take (i := 18) (oi := { dst := some 180, op := Op.load 29 (Operand.tmp 28), type := 29, pos := "laws.go:357", after := #[{ on := 17, ground := Ground.guard }], guard := some (17, true) }) (v := ?vhr18) rfl (by kernel_rfl) (by kernel_rfl) (by kernel_rfl) (fun _ _ _ h => h) (Or.inl ⟨by rfl, ?hyhr18⟩) hHeld ?_
    case hyhr18 => (intro w hSw; (try dsimp only at hSw); go_simp <;> with_reducible rfl)
    try simp only [Act.put, List.setIfInBounds_toArray, List.set_cons_zero, List.set_cons_succ]
    refine wpAnyH_take (i := 19) (oi := { dst := some 181, op := Op.load 29 (Operand.tmp 26), type := 29, pos := "laws.go:357", after := #[{ on := 17, ground := Ground.guard }], guard := some (17, true) }) (v := ?vhr19) rfl (by kernel_rfl) (by kernel_rfl) (by kernel_rfl) (fun _ _ _ h => h) (Or.inl ⟨by rfl, ?hyhr19⟩) hHeld ?_
    case hyhr19 => (intro w hSw; (try dsimp only at hSw); go_simp <;> with_reducible rfl)
    try simp only [Act.put, List.setIfInBounds_toArray, List.set_cons_zero, List.set_cons_succ]
    refine wpAnyH_take (i := 20) (oi := { dst := some 182, op := Op.load 29 (Operand.tmp 4), type := 29, pos := "laws.go:357", after := #[{ on := 17, ground := Ground.guard }], guard := some (17, true) }) (v := ?vhr20) rfl (by kernel_rfl) (by kernel_rfl) (by kernel_rfl) (fun _ _ _ h => h) (Or.inl ⟨by rfl, ?hyhr20⟩) hHeld ?_
    case hyhr20 => (intro w hSw; (try dsimp only at hSw); go_simp <;> with_reducible rfl)
    try simp only [Act.put, List.setIfInBounds_toArray, List.set_cons_zero, List.set_cons_succ]
    refine wpAnyH_ready (rs := [21]) (by kernel_rfl) (by simp) ?_
    refine AllReadyH.cons (o := { dst := some 183, op := Op.call { callee := Callee.value (Operand.func 25), args := #[Operand.tmp 181, Operand.tmp 182], argTypes := #[29, 29] }, type := 29, pos := "laws.go:357", after := #[{ on := 19, ground := Ground.data }, { on := 20, ground := Ground.data }, { on := 17, ground := Ground.chain }, { on := 17, ground := Ground.guard }], guard := some (17, true) }) rfl (fun K hK => ?_) AllReadyH.nil
    go_simp
    refine (MG.out _ hHeld.1).mono ?_
    rintro r wy ⟨⟨gM, cM, rfl, ho'⟩, hy⟩
    have HK1 : Hid (Reads wy (some ⟨gM, 0, none⟩) x.l) := own_reads ho'
    have hz : Below z23.heap.size z23 wy := grow_on hHeld.1 hy
    clear hHeld hy ho'
    refine hK.out _ _ (HS.out _ hz) (fun hHeld => ?_)
    clear hK K hz
    try simp only [Act.put, List.setIfInBounds_toArray, List.set_cons_zero, List.set_cons_succ]
    refine wpAnyH_ready (rs := [22]) (by kernel_rfl) (by simp) ?_
    refine AllReadyH.cons (o := { dst := some 184, op := Op.call { callee := Callee.value (Operand.func 20), args := #[Operand.tmp 180, Operand.tmp 183], argTypes := #[29, 29] }, type := 4, pos := "laws.go:357", after := #[{ on := 18, ground := Ground.data }, { on := 21, ground := Ground.data }, { on := 21, ground := Ground.chain }, { on := 17, ground := Ground.guard }], guard := some (17, true) }) rfl (fun K hK => ?_) AllReadyH.nil
    go_simp
    refine (SMX.out _ _ _ hHeld.1 HK1.out).mono ?_
    rintro r wvhr ⟨rfl, hy⟩
    have hz : Below z23.heap.size z23 wvhr := grow_on hHeld.1 hy
    clear hHeld hy
    refine hK.out _ _ (HS.out _ hz) (fun hHeld => ?_)
    clear hK K hz
    try simp only [Act.put, List.setIfInBounds_toArray, List.set_cons_zero, List.set_cons_succ]
    refine wpAnyH_take (i := 23) (oi := { dst := some 185, op := Op.unOp UnOp.not 4 (Operand.tmp 184), type := 4, pos := "laws.go:357", after := #[{ on := 22, ground := Ground.data }, { on := 17, ground := Ground.guard }], guard := some (17, true) }) (v := ?vhr23) rfl (by kernel_rfl) (by kernel_rfl) (by kernel_rfl) (fun _ _ _ h => h) (Or.inl ⟨by rfl, ?hyhr23⟩) hHeld ?_
    case hyhr23 => (intro w hSw; (try dsimp only at hSw); go_simp <;> with_reducible rfl)
    try simp only [Act.put, List.setIfInBounds_toArray, List.set_cons_zero, List.set_cons_succ]
    refine wpAnyH_take (i := 24) (oi := { dst := some 186, op := Op.pick (Operand.tmp 179) (Operand.tmp 185) (Operand.const (Value.bool false)), type := 4, pos := "laws.go:357", after := #[{ on := 17, ground := Ground.data }, { on := 23, ground := Ground.data }, { on := 15, ground := Ground.guard }], guard := some (15, false) }) (v := ?vhr24) rfl (by kernel_rfl) (by kernel_rfl) (by kernel_rfl) (fun _ _ _ h => h) (Or.inl ⟨by rfl, ?hyhr24⟩) hHeld ?_
    case hyhr24 => (intro w hSw; (try dsimp only at hSw); go_simp <;> with_reducible rfl)
    try simp only [Act.put, List.setIfInBounds_toArray, List.set_cons_zero, List.set_cons_succ]
    refine wpAnyH_take (i := 25) (oi := { dst := some 187, op := Op.pick (Operand.tmp 177) (Operand.const (Value.bool true)) (Operand.tmp 186), type := 4, pos := "laws.go:357", after := #[{ on := 15, ground := Ground.data }, { on := 24, ground := Ground.data }], guard := none }) (v := ?vhr25) rfl (by kernel_rfl) (by kernel_rfl) (by kernel_rfl) (fun _ _ _ h => h) (Or.inl ⟨by rfl, ?hyhr25⟩) hHeld ?_
    case hyhr25 => (intro w hSw; (try dsimp only at hSw); go_simp <;> with_reducible rfl)
    try simp only [Act.put, List.setIfInBounds_toArray, List.set_cons_zero, List.set_cons_succ]
    refine wpAnyH_take (i := 26) (oi := { dst := some 188, op := Op.move (Operand.tmp 187), type := 4, pos := "laws.go:357", after := #[{ on := 25, ground := Ground.data }, { on := 22, ground := Ground.chain }], guard := none }) (v := ?vhr26) rfl (by kernel_rfl) (by kernel_rfl) (by kernel_rfl) (fun _ _ _ h => h) (Or.inl ⟨by rfl, ?hyhr26⟩) hHeld ?_
    case hyhr26 => (intro w hSw; (try dsimp only at hSw); go_simp <;> with_reducible rfl)
    try simp only [Act.put, List.setIfInBounds_toArray, List.set_cons_zero, List.set_cons_succ]
    refine wpAnyH_take (i := 27) (oi := { dst := some 189, op := Op.move (Operand.tmp 27), type := 4, pos := "laws.go:357", after := #[{ on := 26, ground := Ground.guard }], guard := some (26, false) }) (v := ?vhr27) rfl (by kernel_rfl) (by kernel_rfl) (by kernel_rfl) (fun _ _ _ h => h) (Or.inl ⟨by rfl, ?hyhr27⟩) hHeld ?_
    case hyhr27 => (intro w hSw; (try dsimp only at hSw); go_simp <;> with_reducible rfl)
    try simp only [Act.put, List.setIfInBounds_toArray, List.set_cons_zero, List.set_cons_succ]
    refine wpAnyH_take (i := 28) (oi := { dst := some 190, op := Op.unOp UnOp.not 4 (Operand.tmp 189), type := 4, pos := "laws.go:357", after := #[{ on := 27, ground := Ground.data }, { on := 26, ground := Ground.guard }], guard := some (26, false) }) (v := ?vhr28) rfl (by kernel_rfl) (by kernel_rfl) (by kernel_rfl) (fun _ _ _ h => h) (Or.inl ⟨by rfl, ?hyhr28⟩) hHeld ?_
    case hyhr28 => (intro w hSw; (try dsimp only at hSw); go_simp <;> with_reducible rfl)
    try simp only [Act.put, List.setIfInBounds_toArray, List.set_cons_zero, List.set_cons_succ]
    refine wpAnyH_take (i := 29) (oi := { dst := some 191, op := Op.move (Operand.tmp 190), type := 4, pos := "laws.go:357", after := #[{ on := 28, ground := Ground.data }, { on := 26, ground := Ground.chain }, { on := 26, ground := Ground.guard }], guard := some (26, false) }) (v := ?vhr29) rfl (by kernel_rfl) (by kernel_rfl) (by kernel_rfl) (fun _ _ _ h => h) (Or.inl ⟨by rfl, ?hyhr29⟩) hHeld ?_
    case hyhr29 => (intro w hSw; (try dsimp only at hSw); go_simp <;> with_reducible rfl)
    try simp only [Act.put, List.setIfInBounds_toArray, List.set_cons_zero, List.set_cons_succ]
    refine wpAnyH_take (i := 30) (oi := { dst := some 192, op := Op.load 29 (Operand.tmp 28), type := 29, pos := "laws.go:357", after := #[{ on := 29, ground := Ground.guard }], guard := some (29, true) }) (v := undef) rfl (by kernel_rfl) (by kernel_rfl) (by kernel_rfl) (fun _ _ _ h => h) (Or.inr ⟨by rfl, rfl⟩) hHeld ?_
    try simp only [Act.put, List.setIfInBounds_toArray, List.set_cons_zero, List.set_cons_succ]
    refine wpAnyH_take (i := 31) (oi := { dst := some 193, op := Op.load 29 (Operand.tmp 4), type := 29, pos := "laws.go:357", after := #[{ on := 29, ground := Ground.guard }], guard := some (29, true) }) (v := undef) rfl (by kernel_rfl) (by kernel_rfl) (by kernel_rfl) (fun _ _ _ h => h) (Or.inr ⟨by rfl, rfl⟩) hHeld ?_
    try simp only [Act.put, List.setIfInBounds_toArray, List.set_cons_zero, List.set_cons_succ]
    refine wpAnyH_ready (rs := [32]) (by kernel_rfl) (by simp) ?_
    refine AllReadyH.cons (o := { dst := some 194, op := Op.call { callee := Callee.value (Operand.func 20), args := #[Operand.tmp 192, Operand.tmp 193], argTypes := #[29, 29] }, type := 4, pos := "laws.go:357", after := #[{ on := 30, ground := Ground.data }, { on := 31, ground := Ground.data }, { on := 29, ground := Ground.chain }, { on := 29, ground := Ground.guard }], guard := some (29, true) }) rfl (fun K hK => ?_) AllReadyH.nil
    go_simp
    refine hK.out _ _ hHeld (fun hHeld => ?_)
    clear hK K
    try simp only [Act.put, List.setIfInBounds_toArray, List.set_cons_zero, List.set_cons_succ]
    refine wpAnyH_take (i := 33) (oi := { dst := some 195, op := Op.unOp UnOp.not 4 (Operand.tmp 194), type := 4, pos := "laws.go:357", after := #[{ on := 32, ground := Ground.data }, { on := 29, ground := Ground.guard }], guard := some (29, true) }) (v := undef) rfl (by kernel_rfl) (by kernel_rfl) (by kernel_rfl) (fun _ _ _ h => h) (Or.inr ⟨by rfl, rfl⟩) hHeld ?_
    try simp only [Act.put, List.setIfInBounds_toArray, List.set_cons_zero, List.set_cons_succ]
    refine wpAnyH_take (i := 34) (oi := { dst := some 196, op := Op.pick (Operand.tmp 191) (Operand.tmp 195) (Operand.const (Value.bool false)), type := 4, pos := "laws.go:357", after := #[{ on := 29, ground := Ground.data }, { on := 33, ground := Ground.data }, { on := 26, ground := Ground.guard }], guard := some (26, false) }) (v := ?vhr34) rfl (by kernel_rfl) (by kernel_rfl) (by kernel_rfl) (fun _ _ _ h => h) (Or.inl ⟨by rfl, ?hyhr34⟩) hHeld ?_
    case hyhr34 => (intro w hSw; (try dsimp only at hSw); go_simp <;> with_reducible rfl)
    try simp only [Act.put, List.setIfInBounds_toArray, List.set_cons_zero, List.set_cons_succ]
    refine wpAnyH_take (i := 35) (oi := { dst := some 197, op := Op.pick (Operand.tmp 188) (Operand.const (Value.bool true)) (Operand.tmp 196), type := 4, pos := "laws.go:357", after := #[{ on := 26, ground := Ground.data }, { on := 34, ground := Ground.data }], guard := none }) (v := ?vhr35) rfl (by kernel_rfl) (by kernel_rfl) (by kernel_rfl) (fun _ _ _ h => h) (Or.inl ⟨by rfl, ?hyhr35⟩) hHeld ?_
    case hyhr35 => (intro w hSw; (try dsimp only at hSw); go_simp <;> with_reducible rfl)
    try simp only [Act.put, List.setIfInBounds_toArray, List.set_cons_zero, List.set_cons_succ]
    refine wpAnyH_done (by kernel_rfl) ?_ _
    have hbz := hHeld.1
    clear hHeld HS kz hw1 hw2 SMX MG HK1
    clear bP_z23
    clear bA_z23
    clear bX_z23
    clear bOld_z23
    clear bZ_z23
    clear DP_z23
    clear DX_z23
    clear RX_z23
    clear RZ_z23
    skip
    have B_wvhr : Hid (Below w.heap.size w wvhr) := grow_on B_z23.out hbz
    have DR_wvhr : Hid (Pt wvhr aR R) := DR_z23.out.below hbz
    have bR_wvhr : Hid (Blk wvhr w7.heap.size #[.int .i64 hr0, .int .i64 vr0, .slice aR R.length cr] 26) := bR_z23.out.grow hbz
    have RS_wvhr : Hid (Pt wvhr (some ⟨Ms, 0, none⟩) SW) := RS_z23.out.below hbz
    have RG_wvhr : Hid (RdN wvhr (some ⟨Mg, 0, none⟩) GO) := RG_z23.out.below hbz
    have bS_wvhr : Hid (Blk wvhr w8.heap.size #[.int .i64 hr0, .int .i64 vs, .slice (some ⟨Ms, 0, none⟩) SW.length cs] 26) := bS_z23.out.grow hbz
    clear B_z23 DR_z23 bR_z23 RS_z23 RG_z23 bS_z23
    clear hbz
    go_upto_region 20 with fail
    have cbS0 : wvhr.cell? ⟨w8.heap.size, 0, none⟩ = some (.int .i64 hr0) := bS_wvhr.out.cell 0
    have cbS1 : wvhr.cell? ⟨w8.heap.size, 1, none⟩ = some (.int .i64 vs) := bS_wvhr.out.cell 1
    have cbS2 : wvhr.cell? ⟨w8.heap.size, 2, none⟩ = some (.slice (some ⟨Ms, 0, none⟩) SW.length cs) := bS_wvhr.out.cell 2
    go_wp2_with fail
    refine (implAllR hr0 vs _ cs SW _ RS_wvhr.out ES.out.2.2.2.1).mono ?_
    rintro e w24 ⟨⟨Ml, cl', rfl, hr⟩, hb⟩
    clear cbS0 cbS1 cbS2
    have NRL : Hid (RdN w24 (some ⟨Ml, 0, none⟩) AL) := hr
    have B_w24 : Hid (Below w.heap.size w w24) := grow_on B_wvhr.out hb
    have DR_w24 : Hid (Pt w24 aR R) := DR_wvhr.out.below hb
    have bR_w24 : Hid (Blk w24 w7.heap.size #[.int .i64 hr0, .int .i64 vr0, .slice aR R.length cr] 26) := bR_wvhr.out.grow hb
    have RS_w24 : Hid (Pt w24 (some ⟨Ms, 0, none⟩) SW) := RS_wvhr.out.below hb
    have RG_w24 : Hid (RdN w24 (some ⟨Mg, 0, none⟩) GO) := RG_wvhr.out.below hb
    have bS_w24 : Hid (Blk w24 w8.heap.size #[.int .i64 hr0, .int .i64 vs, .slice (some ⟨Ms, 0, none⟩) SW.length cs] 26) := bS_wvhr.out.grow hb
    clear B_wvhr DR_wvhr bR_wvhr RS_wvhr RG_wvhr bS_wvhr
    have RL_w24 : Hid (RdN w24 (some ⟨Ml, 0, none⟩) AL) := NRL.out
    clear NRL
    clear hb
    go_upto_region 21 with fail
    have hal5 : AL.length ≤ 504 := by have := FG.out.2.2.2; omega
    go_wp2
    go_loopw [31] (fun i w' => ∃ m : Nat, i = .int .i64 m ∧ m ≤ AL.length ∧ Below w24.heap.size w24 w') (fun i _ => AL.length - (intOf i).toNat)
    case atStart => exact ⟨0, rfl, Nat.zero_le _, Below.refl _ _⟩
    case round =>
      obtain ⟨m, rfl, hmA, hw0⟩ := hrel
      have HW : Hid (Below w24.heap.size w24 wr) := hw0
      clear hw0
      by_cases hlt : m < AL.length
      ·
        have hlt' : (m : Int) < (AL.length : Int) := by omega
        obtain ⟨bb, oo, ee, hbL, gL, oL, cpL, hatL⟩ := (RL_w24.out.below HW.out).get hlt
        cases ee
        have rL0 : wr.cell? ⟨Ml, m * 4, none⟩ = some (.slice (some ⟨gL, oL, none⟩) (nthP AL m).l.length cpL) := by have := hatL.c0; rwa [Nat.zero_add] at this
        have rL1 : wr.cell? ⟨Ml, m * 4 + 1, none⟩ = some (.int .i64 (nthP AL m).s) := by have := hatL.c1; rwa [Nat.zero_add] at this
        have rL2 : wr.cell? ⟨Ml, m * 4 + 2, none⟩ = some (.int .i64 (nthP AL m).e) := by have := hatL.c2; rwa [Nat.zero_add] at this
        have rL3 : wr.cell? ⟨Ml, m * 4 + 3, none⟩ = some (.string (nthP AL m).n) := by have := hatL.c3; rwa [Nat.zero_add] at this
        have HOv : Hid (Calls Tryz.prog 27 #[.agg #[.slice (some ⟨gL, oL, none⟩) (nthP AL m).l.length cpL, .int .i64 (nthP AL m).s, .int .i64 (nthP AL m).e, .string (nthP AL m).n], .int .i64 now] wr fun r w' => r = .returned (.bool false) ∧ Below wr.heap.size wr w') := (implOver_any _ _ _ _ now wr).mono fun e w' h => ⟨h.1.trans (retB (FO.out m hlt)), h.2⟩
        clear hatL
        go_wp2_with fail
        refine HOv.out.mono ?_
        rintro r wo ⟨rfl, hbo⟩
        have HV2 : Hid (Below w24.heap.size w24 wo) := grow_on HW.out hbo
        clear hbo rL0 rL1 rL2 rL3 HOv
        go_wp2
        go_roundw
        case rel => exact ⟨m + 1, by go_num, by omega, HV2.out⟩
        case measure => simp [intOf]; omega
      ·
        have hge : ¬ (m : Int) < (AL.length : Int) := by omega
        have bSw := bS_w24.out.grow HW.out
        have bRw := bR_w24.out.grow HW.out
        have HBw : Hid (Below w.heap.size w wr) := grow_on B_w24.out HW.out
        have HPR : Hid (Pt wr aR R) := DR_w24.out.below HW.out
        have HS : Hid (∀ w', Below wr.heap.size wr w' → Below wr.heap.size wr w' ∧ w'.cell? ⟨w7.heap.size, 0, none⟩ = some (.int .i64 hr0) ∧ w'.cell? ⟨w7.heap.size, 1, none⟩ = some (.int .i64 vr0) ∧ w'.cell? ⟨w7.heap.size, 2, none⟩ = some (.slice aR R.length cr) ∧ w'.cell? ⟨w8.heap.size, 0, none⟩ = some (.int .i64 hr0) ∧ w'.cell? ⟨w8.heap.size, 1, none⟩ = some (.int .i64 vs) ∧ w'.cell? ⟨w8.heap.size, 2, none⟩ = some (.slice (some ⟨Ms, 0, none⟩) SW.length cs)) := fun w' h => ⟨h, (bRw.grow h).cell 0, (bRw.grow h).cell 1, (bRw.grow h).cell 2, (bSw.grow h).cell 0, (bSw.grow h).cell 1, (bSw.grow h).cell 2⟩
        have kz : Below wr.heap.size wr wr.drew := (Below.refl _ _).drew
        have hsum : (AL.length : Int) + (GO.length : Int) = (AR.length : Int) := by have := FG.out.2.2.2.1; omega
        have hw1 : IntKind.i64.wrap ((AL.length : Int) + (GO.length : Int)) = (AR.length : Int) := by rw [IntKind.wrap_i64]; have := FG.out.2.2.2.2; omega
        have hw2 : ((AR.length : Int) == (AR.length : Int)) = true := by simp
        have hw3 : IntKind.i64.wrap (AR.length : Int) = (AR.length : Int) := by rw [IntKind.wrap_i64]; have := FG.out.2.2.2.2; omega
        have hver : (vs != vr0) = decide ((GO.length : Int) > 0) := FV.out
        have AI : Hid (∀ (u : World), Below wr.heap.size wr u → Calls Tryz.prog 26 #[.agg #[.int .i64 hr0, .int .i64 vr0, .slice aR R.length cr]] u fun r w' => (∃ M c, r = .returned (.slice (some ⟨M, 0, none⟩) AR.length c) ∧ RdN w' (some ⟨M, 0, none⟩) AR) ∧ Below u.heap.size u w') := fun u hu => implAllR hr0 vr0 aR cr R u (HPR.out.below hu) ES.out.2.2.2.2
        have AS : Hid (∀ (u : World), Below wr.heap.size wr u → Calls Tryz.prog 28 #[.agg #[.int .i64 hr0, .int .i64 vr0, .slice aR R.length cr]] u fun r w' => (∃ M c, r = .returned (.slice (some ⟨M, 0, none⟩) AR.length c) ∧ RdN w' (some ⟨M, 0, none⟩) AR) ∧ Below u.heap.size u w') := fun u hu => specAllR hr0 vr0 aR cr R u (HPR.out.below hu) ES.out.2.2.2.2
        have SL : Hid (∀ (u : World) (M1 c1 M2 c2 : Nat), RdN u (some ⟨M1, 0, none⟩) AR → RdN u (some ⟨M2, 0, none⟩) AR → Calls Tryz.prog 21 #[.slice (some ⟨M1, 0, none⟩) AR.length c1, .slice (some ⟨M2, 0, none⟩) AR.length c2] u fun r w' => r = .returned (.bool true) ∧ Below u.heap.size u w') := fun u M1 c1 M2 c2 h1 h2 => (sameList_any _ _ c1 c2 AR AR u h1.rd h2.rd (by have := FG.out.2.2.2; omega) (by have := FG.out.2.2.2; omega) (finesP FG.out.2.2.1) (finesP FG.out.2.2.1)).mono fun e w' h => ⟨h.1.trans (retB (same_refl _)), h.2⟩
        clear bSw bRw
        go_upto_region 26 with fail
        refine wp_region_held_drew (S := fun w' => Below wr.heap.size wr w' ∧ w'.cell? ⟨w7.heap.size, 0, none⟩ = some (.int .i64 hr0) ∧ w'.cell? ⟨w7.heap.size, 1, none⟩ = some (.int .i64 vr0) ∧ w'.cell? ⟨w7.heap.size, 2, none⟩ = some (.slice aR R.length cr) ∧ w'.cell? ⟨w8.heap.size, 0, none⟩ = some (.int .i64 hr0) ∧ w'.cell? ⟨w8.heap.size, 1, none⟩ = some (.int .i64 vs) ∧ w'.cell? ⟨w8.heap.size, 2, none⟩ = some (.slice (some ⟨Ms, 0, none⟩) SW.length cs)) (by kernel_rfl) (HS.out _ kz) (fun hHeld => ?_)
        refine wpAnyH_take (i := 0) (oi := { dst := some 212, op := Op.move (Operand.tmp 30), type := 40, pos := "laws.go:366", after := #[], guard := none }) (v := ?vhs0) rfl (by kernel_rfl) (by kernel_rfl) (by kernel_rfl) (fun _ _ _ h => h) (Or.inl ⟨by rfl, ?hyhs0⟩) hHeld ?_
        case hyhs0 => (intro w hSw; (try dsimp only at hSw); go_simp <;> with_reducible rfl)
        try simp only [Act.put, List.setIfInBounds_toArray, List.set_cons_zero, List.set_cons_succ]
        refine wpAnyH_take (i := 1) (oi := { dst := some 213, op := Op.call { callee := Callee.builtin Builtin.len, args := #[Operand.tmp 212], argTypes := #[40] }, type := 3, pos := "laws.go:366", after := #[{ on := 0, ground := Ground.data }], guard := none }) (v := ?vhs1) rfl (by kernel_rfl) (by kernel_rfl) (by kernel_rfl) (fun _ _ _ h => h) (Or.inl ⟨by rfl, ?hyhs1⟩) hHeld ?_
        case hyhs1 => (intro w hSw; (try dsimp only at hSw); go_simp <;> with_reducible rfl)
        try simp only [Act.put, List.setIfInBounds_toArray, List.set_cons_zero, List.set_cons_succ]
        refine wpAnyH_take (i := 2) (oi := { dst := some 214, op := Op.move (Operand.tmp 18), type := 40, pos := "laws.go:366", after := #[], guard := none }) (v := ?vhs2) rfl (by kernel_rfl) (by kernel_rfl) (by kernel_rfl) (fun _ _ _ h => h) (Or.inl ⟨by rfl, ?hyhs2⟩) hHeld ?_
        case hyhs2 => (intro w hSw; (try dsimp only at hSw); go_simp <;> with_reducible rfl)
        try simp only [Act.put, List.setIfInBounds_toArray, List.set_cons_zero, List.set_cons_succ]
        refine wpAnyH_take (i := 3) (oi := { dst := some 215, op := Op.call { callee := Callee.builtin Builtin.len, args := #[Operand.tmp 214], argTypes := #[40] }, type := 3, pos := "laws.go:366", after := #[{ on := 2, ground := Ground.data }], guard := none }) (v := ?vhs3) rfl (by kernel_rfl) (by kernel_rfl) (by kernel_rfl) (fun _ _ _ h => h) (Or.inl ⟨by rfl, ?hyhs3⟩) hHeld ?_
        case hyhs3 => (intro w hSw; (try dsimp only at hSw); go_simp <;> with_reducible rfl)
        try simp only [Act.put, List.setIfInBounds_toArray, List.set_cons_zero, List.set_cons_succ]
        refine wpAnyH_take (i := 4) (oi := { dst := some 216, op := Op.binOp BinOp.add 3 (Operand.tmp 213) (Operand.tmp 215) 3, type := 3, pos := "laws.go:366", after := #[{ on := 1, ground := Ground.data }, { on := 3, ground := Ground.data }], guard := none }) (v := ?vhs4) rfl (by kernel_rfl) (by kernel_rfl) (by kernel_rfl) (fun _ _ _ h => h) (Or.inl ⟨by rfl, ?hyhs4⟩) hHeld ?_
        case hyhs4 => (intro w hSw; (try dsimp only at hSw); go_simp <;> with_reducible rfl)
        try simp only [Act.put, List.setIfInBounds_toArray, List.set_cons_zero, List.set_cons_succ]
        refine wpAnyH_take (i := 5) (oi := { dst := some 217, op := Op.load 26 (Operand.tmp 15), type := 26, pos := "laws.go:366", after := #[], guard := none }) (v := ?vhs5) rfl (by kernel_rfl) (by kernel_rfl) (by kernel_rfl) (fun _ _ _ h => h) (Or.inl ⟨by rfl, ?hyhs5⟩) hHeld ?_
        case hyhs5 => (intro w hSw; (try dsimp only at hSw); go_simp <;> with_reducible rfl)
        try simp only [Act.put, List.setIfInBounds_toArray, List.set_cons_zero, List.set_cons_succ]
        refine wpAnyH_ready (rs := [6]) (by kernel_rfl) (by simp) ?_
        refine AllReadyH.cons (o := { dst := some 218, op := Op.call { callee := Callee.value (Operand.func 26), args := #[Operand.tmp 217], argTypes := #[26] }, type := 40, pos := "laws.go:366", after := #[{ on := 5, ground := Ground.data }], guard := none }) rfl (fun K hK => ?_) AllReadyH.nil
        go_simp
        refine (AI.out _ hHeld.1).mono ?_
        rintro r wc6 ⟨⟨M6, c6, rfl, hr6⟩, hy⟩
        have HK6 : Hid (RdN wc6 (some ⟨M6, 0, none⟩) AR) := hr6
        have hz : Below wr.heap.size wr wc6 := grow_on hHeld.1 hy
        clear hHeld hy hr6
        refine hK.out _ _ (HS.out _ hz) (fun hHeld => ?_)
        clear hK K hz
        try simp only [Act.put, List.setIfInBounds_toArray, List.set_cons_zero, List.set_cons_succ]
        refine wpAnyH_take (i := 7) (oi := { dst := some 219, op := Op.call { callee := Callee.builtin Builtin.len, args := #[Operand.tmp 218], argTypes := #[40] }, type := 3, pos := "laws.go:366", after := #[{ on := 6, ground := Ground.data }], guard := none }) (v := ?vhs7) rfl (by kernel_rfl) (by kernel_rfl) (by kernel_rfl) (fun _ _ _ h => h) (Or.inl ⟨by rfl, ?hyhs7⟩) hHeld ?_
        case hyhs7 => (intro w hSw; (try dsimp only at hSw); go_simp <;> with_reducible rfl)
        try simp only [Act.put, List.setIfInBounds_toArray, List.set_cons_zero, List.set_cons_succ]
        refine wpAnyH_take (i := 8) (oi := { dst := some 220, op := Op.binOp BinOp.eql 3 (Operand.tmp 216) (Operand.tmp 219) 3, type := 4, pos := "laws.go:366", after := #[{ on := 4, ground := Ground.data }, { on := 7, ground := Ground.data }], guard := none }) (v := ?vhs8) rfl (by kernel_rfl) (by kernel_rfl) (by kernel_rfl) (fun _ _ _ h => h) (Or.inl ⟨by rfl, ?hyhs8⟩) hHeld ?_
        case hyhs8 => (intro w hSw; (try dsimp only at hSw); go_simp <;> with_reducible rfl)
        try simp only [Act.put, List.setIfInBounds_toArray, List.set_cons_zero, List.set_cons_succ]
        refine wpAnyH_take (i := 9) (oi := { dst := some 221, op := Op.move (Operand.tmp 220), type := 4, pos := "laws.go:366", after := #[{ on := 8, ground := Ground.data }, { on := 6, ground := Ground.chain }], guard := none }) (v := ?vhs9) rfl (by kernel_rfl) (by kernel_rfl) (by kernel_rfl) (fun _ _ _ h => h) (Or.inl ⟨by rfl, ?hyhs9⟩) hHeld ?_
        case hyhs9 => (intro w hSw; (try dsimp only at hSw); go_simp <;> with_reducible rfl)
        try simp only [Act.put, List.setIfInBounds_toArray, List.set_cons_zero, List.set_cons_succ]
        refine wpAnyH_take (i := 10) (oi := { dst := some 222, op := Op.fieldAddr 26 (Operand.tmp 17) 1, type := 0, pos := "laws.go:366", after := #[{ on := 9, ground := Ground.guard }], guard := some (9, true) }) (v := ?vhs10) rfl (by kernel_rfl) (by kernel_rfl) (by kernel_rfl) (fun _ _ _ h => h) (Or.inl ⟨by rfl, ?hyhs10⟩) hHeld ?_
        case hyhs10 => (intro w hSw; (try dsimp only at hSw); go_simp <;> with_reducible rfl)
        try simp only [Act.put, List.setIfInBounds_toArray, List.set_cons_zero, List.set_cons_succ]
        refine wpAnyH_take (i := 11) (oi := { dst := some 223, op := Op.load 3 (Operand.tmp 222), type := 3, pos := "laws.go:366", after := #[{ on := 10, ground := Ground.data }, { on := 9, ground := Ground.guard }], guard := some (9, true) }) (v := ?vhs11) rfl (by kernel_rfl) (by kernel_rfl) (by kernel_rfl) (fun _ _ _ h => h) (Or.inl ⟨by rfl, ?hyhs11⟩) hHeld ?_
        case hyhs11 => (intro w hSw; (try dsimp only at hSw); go_simp <;> with_reducible rfl)
        try simp only [Act.put, List.setIfInBounds_toArray, List.set_cons_zero, List.set_cons_succ]
        refine wpAnyH_take (i := 12) (oi := { dst := some 224, op := Op.fieldAddr 26 (Operand.tmp 15) 1, type := 0, pos := "laws.go:366", after := #[{ on := 9, ground := Ground.guard }], guard := some (9, true) }) (v := ?vhs12) rfl (by kernel_rfl) (by kernel_rfl) (by kernel_rfl) (fun _ _ _ h => h) (Or.inl ⟨by rfl, ?hyhs12⟩) hHeld ?_
        case hyhs12 => (intro w hSw; (try dsimp only at hSw); go_simp <;> with_reducible rfl)
        try simp only [Act.put, List.setIfInBounds_toArray, List.set_cons_zero, List.set_cons_succ]
        refine wpAnyH_take (i := 13) (oi := { dst := some 225, op := Op.load 3 (Operand.tmp 224), type := 3, pos := "laws.go:366", after := #[{ on := 12, ground := Ground.data }, { on := 9, ground := Ground.guard }], guard := some (9, true) }) (v := ?vhs13) rfl (by kernel_rfl) (by kernel_rfl) (by kernel_rfl) (fun _ _ _ h => h) (Or.inl ⟨by rfl, ?hyhs13⟩) hHeld ?_
        case hyhs13 => (intro w hSw; (try dsimp only at hSw); go_simp <;> with_reducible rfl)
        try simp only [Act.put, List.setIfInBounds_toArray, List.set_cons_zero, List.set_cons_succ]
        refine wpAnyH_take (i := 14) (oi := { dst := some 226, op := Op.binOp BinOp.neq 3 (Operand.tmp 223) (Operand.tmp 225) 3, type := 4, pos := "laws.go:366", after := #[{ on := 11, ground := Ground.data }, { on := 13, ground := Ground.data }, { on := 9, ground := Ground.guard }], guard := some (9, true) }) (v := ?vhs14) rfl (by kernel_rfl) (by kernel_rfl) (by kernel_rfl) (fun _ _ _ h => h) (Or.inl ⟨by rfl, ?hyhs14⟩) hHeld ?_
        case hyhs14 => (intro w hSw; (try dsimp only at hSw); go_simp <;> with_reducible rfl)
        try simp only [Act.put, List.setIfInBounds_toArray, List.set_cons_zero, List.set_cons_succ]
        refine wpAnyH_take (i := 15) (oi := { dst := some 227, op := Op.move (Operand.tmp 18), type := 40, pos := "laws.go:366", after := #[{ on := 9, ground := Ground.guard }], guard := some (9, true) }) (v := ?vhs15) rfl (by kernel_rfl) (by kernel_rfl) (by kernel_rfl) (fun _ _ _ h => h) (Or.inl ⟨by rfl, ?hyhs15⟩) hHeld ?_
        case hyhs15 => (intro w hSw; (try dsimp only at hSw); go_simp <;> with_reducible rfl)
        try simp only [Act.put, List.setIfInBounds_toArray, List.set_cons_zero, List.set_cons_succ]
        refine wpAnyH_take (i := 16) (oi := { dst := some 228, op := Op.call { callee := Callee.builtin Builtin.len, args := #[Operand.tmp 227], argTypes := #[40] }, type := 3, pos := "laws.go:366", after := #[{ on := 15, ground := Ground.data }, { on := 9, ground := Ground.guard }], guard := some (9, true) }) (v := ?vhs16) rfl (by kernel_rfl) (by kernel_rfl) (by kernel_rfl) (fun _ _ _ h => h) (Or.inl ⟨by rfl, ?hyhs16⟩) hHeld ?_
        case hyhs16 => (intro w hSw; (try dsimp only at hSw); go_simp <;> with_reducible rfl)
        try simp only [Act.put, List.setIfInBounds_toArray, List.set_cons_zero, List.set_cons_succ]
        refine wpAnyH_take (i := 17) (oi := { dst := some 229, op := Op.binOp BinOp.gtr 3 (Operand.tmp 228) (Operand.const (Value.int IntKind.i64 0)) 3, type := 4, pos := "laws.go:366", after := #[{ on := 16, ground := Ground.data }, { on := 9, ground := Ground.guard }], guard := some (9, true) }) (v := ?vhs17) rfl (by kernel_rfl) (by kernel_rfl) (by kernel_rfl) (fun _ _ _ h => h) (Or.inl ⟨by rfl, ?hyhs17⟩) hHeld ?_
        case hyhs17 => (intro w hSw; (try dsimp only at hSw); go_simp <;> with_reducible rfl)
        try simp only [Act.put, List.setIfInBounds_toArray, List.set_cons_zero, List.set_cons_succ]
        refine wpAnyH_take (i := 18) (oi := { dst := some 230, op := Op.binOp BinOp.eql 4 (Operand.tmp 226) (Operand.tmp 229) 4, type := 4, pos := "laws.go:366", after := #[{ on := 14, ground := Ground.data }, { on := 17, ground := Ground.data }, { on := 9, ground := Ground.guard }], guard := some (9, true) }) (v := ?vhs18) rfl (by kernel_rfl) (by kernel_rfl) (by kernel_rfl) (fun _ _ _ h => h) (Or.inl ⟨by rfl, ?hyhs18⟩) hHeld ?_
        case hyhs18 => (intro w hSw; (try dsimp only at hSw); go_simp <;> with_reducible rfl)
        try simp only [Act.put, List.setIfInBounds_toArray, List.set_cons_zero, List.set_cons_succ]
        refine wpAnyH_take (i := 19) (oi := { dst := some 231, op := Op.pick (Operand.tmp 221) (Operand.tmp 230) (Operand.const (Value.bool false)), type := 4, pos := "laws.go:366", after := #[{ on := 9, ground := Ground.data }, { on := 18, ground := Ground.data }], guard := none }) (v := ?vhs19) rfl (by kernel_rfl) (by kernel_rfl) (by kernel_rfl) (fun _ _ _ h => h) (Or.inl ⟨by rfl, ?hyhs19⟩) hHeld ?_
        case hyhs19 => (intro w hSw; (try dsimp only at hSw); go_simp <;> with_reducible rfl)
        try simp only [Act.put, List.setIfInBounds_toArray, List.set_cons_zero, List.set_cons_succ]
        refine wpAnyH_take (i := 20) (oi := { dst := some 232, op := Op.move (Operand.tmp 231), type := 4, pos := "laws.go:366", after := #[{ on := 19, ground := Ground.data }, { on := 9, ground := Ground.chain }], guard := none }) (v := ?vhs20) rfl (by kernel_rfl) (by kernel_rfl) (by kernel_rfl) (fun _ _ _ h => h) (Or.inl ⟨by rfl, ?hyhs20⟩) hHeld ?_
        case hyhs20 => (intro w hSw; (try dsimp only at hSw); go_simp <;> with_reducible rfl)
        try simp only [Act.put, List.setIfInBounds_toArray, List.set_cons_zero, List.set_cons_succ]
        refine wpAnyH_take (i := 21) (oi := { dst := some 233, op := Op.load 26 (Operand.tmp 15), type := 26, pos := "laws.go:366", after := #[{ on := 20, ground := Ground.guard }], guard := some (20, true) }) (v := ?vhs21) rfl (by kernel_rfl) (by kernel_rfl) (by kernel_rfl) (fun _ _ _ h => h) (Or.inl ⟨by rfl, ?hyhs21⟩) hHeld ?_
        case hyhs21 => (intro w hSw; (try dsimp only at hSw); go_simp <;> with_reducible rfl)
        try simp only [Act.put, List.setIfInBounds_toArray, List.set_cons_zero, List.set_cons_succ]
        refine wpAnyH_take (i := 23) (oi := { dst := some 235, op := Op.load 26 (Operand.tmp 15), type := 26, pos := "laws.go:366", after := #[{ on := 20, ground := Ground.guard }], guard := some (20, true) }) (v := ?vhs23) rfl (by kernel_rfl) (by kernel_rfl) (by kernel_rfl) (fun _ _ _ h => h) (Or.inl ⟨by rfl, ?hyhs23⟩) hHeld ?_
        case hyhs23 => (intro w hSw; (try dsimp only at hSw); go_simp <;> with_reducible rfl)
        try simp only [Act.put, List.setIfInBounds_toArray, List.set_cons_zero, List.set_cons_succ]
        refine wpAnyH_ready (rs := [22]) (by kernel_rfl) (by simp) ?_
        refine AllReadyH.cons (o := { dst := some 234, op := Op.call { callee := Callee.value (Operand.func 26), args := #[Operand.tmp 233], argTypes := #[26] }, type := 40, pos := "laws.go:366", after := #[{ on := 21, ground := Ground.data }, { on := 20, ground := Ground.chain }, { on := 20, ground := Ground.guard }], guard := some (20, true) }) rfl (fun K hK => ?_) AllReadyH.nil
        go_simp
        refine (AI.out _ hHeld.1).mono ?_
        rintro r wc22 ⟨⟨M22, c22, rfl, hr22⟩, hy⟩
        have HK22 : Hid (RdN wc22 (some ⟨M22, 0, none⟩) AR) := hr22
        have hz : Below wr.heap.size wr wc22 := grow_on hHeld.1 hy
        clear hHeld hy hr22
        refine hK.out _ _ (HS.out _ hz) (fun hHeld => ?_)
        clear hK K hz
        try simp only [Act.put, List.setIfInBounds_toArray, List.set_cons_zero, List.set_cons_succ]
        refine wpAnyH_ready (rs := [24]) (by kernel_rfl) (by simp) ?_
        refine AllReadyH.cons (o := { dst := some 236, op := Op.call { callee := Callee.value (Operand.func 28), args := #[Operand.tmp 235], argTypes := #[26] }, type := 40, pos := "laws.go:366", after := #[{ on := 23, ground := Ground.data }, { on := 22, ground := Ground.chain }, { on := 20, ground := Ground.guard }], guard := some (20, true) }) rfl (fun K hK => ?_) AllReadyH.nil
        go_simp
        refine (AS.out _ hHeld.1).mono ?_
        rintro r wc24 ⟨⟨M24, c24, rfl, hr24⟩, hy⟩
        have HK24 : Hid (RdN wc24 (some ⟨M24, 0, none⟩) AR ∧ RdN wc24 (some ⟨M22, 0, none⟩) AR) := ⟨hr24, HK22.out.below hy⟩
        have hz : Below wr.heap.size wr wc24 := grow_on hHeld.1 hy
        clear hHeld hy hr24
        refine hK.out _ _ (HS.out _ hz) (fun hHeld => ?_)
        clear hK K hz
        try simp only [Act.put, List.setIfInBounds_toArray, List.set_cons_zero, List.set_cons_succ]
        refine wpAnyH_ready (rs := [25]) (by kernel_rfl) (by simp) ?_
        refine AllReadyH.cons (o := { dst := some 237, op := Op.call { callee := Callee.value (Operand.func 21), args := #[Operand.tmp 234, Operand.tmp 236], argTypes := #[40, 40] }, type := 4, pos := "laws.go:366", after := #[{ on := 22, ground := Ground.data }, { on := 24, ground := Ground.data }, { on := 24, ground := Ground.chain }, { on := 20, ground := Ground.guard }], guard := some (20, true) }) rfl (fun K hK => ?_) AllReadyH.nil
        go_simp
        refine (SL.out _ _ _ _ _ HK24.out.2 HK24.out.1).mono ?_
        rintro r wc25 ⟨rfl, hy⟩
        have hz : Below wr.heap.size wr wc25 := grow_on hHeld.1 hy
        clear hHeld hy
        refine hK.out _ _ (HS.out _ hz) (fun hHeld => ?_)
        clear hK K hz
        try simp only [Act.put, List.setIfInBounds_toArray, List.set_cons_zero, List.set_cons_succ]
        refine wpAnyH_take (i := 26) (oi := { dst := some 238, op := Op.pick (Operand.tmp 232) (Operand.tmp 237) (Operand.const (Value.bool false)), type := 4, pos := "laws.go:366", after := #[{ on := 20, ground := Ground.data }, { on := 25, ground := Ground.data }], guard := none }) (v := ?vhs26) rfl (by kernel_rfl) (by kernel_rfl) (by kernel_rfl) (fun _ _ _ h => h) (Or.inl ⟨by rfl, ?hyhs26⟩) hHeld ?_
        case hyhs26 => (intro w hSw; (try dsimp only at hSw); go_simp <;> with_reducible rfl)
        try simp only [Act.put, List.setIfInBounds_toArray, List.set_cons_zero, List.set_cons_succ]
        refine wpAnyH_take (i := 27) (oi := { dst := some 2, op := Op.assign (Operand.tmp 238), type := 4, pos := "laws.go:366", after := #[{ on := 26, ground := Ground.data }, { on := 25, ground := Ground.chain }, { on := 0, ground := Ground.phase }, { on := 1, ground := Ground.phase }, { on := 2, ground := Ground.phase }, { on := 3, ground := Ground.phase }, { on := 4, ground := Ground.phase }, { on := 5, ground := Ground.phase }, { on := 6, ground := Ground.phase }, { on := 7, ground := Ground.phase }, { on := 8, ground := Ground.phase }, { on := 9, ground := Ground.phase }, { on := 10, ground := Ground.phase }, { on := 11, ground := Ground.phase }, { on := 12, ground := Ground.phase }, { on := 13, ground := Ground.phase }, { on := 14, ground := Ground.phase }, { on := 15, ground := Ground.phase }, { on := 16, ground := Ground.phase }, { on := 17, ground := Ground.phase }, { on := 18, ground := Ground.phase }, { on := 19, ground := Ground.phase }, { on := 20, ground := Ground.phase }, { on := 21, ground := Ground.phase }, { on := 22, ground := Ground.phase }, { on := 23, ground := Ground.phase }, { on := 24, ground := Ground.phase }, { on := 25, ground := Ground.phase }, { on := 26, ground := Ground.phase }], guard := none }) (v := ?vhs27) rfl (by kernel_rfl) (by kernel_rfl) (by kernel_rfl) (fun _ _ _ h => h) (Or.inl ⟨by rfl, ?hyhs27⟩) hHeld ?_
        case hyhs27 => (intro w hSw; (try dsimp only at hSw); go_simp <;> with_reducible rfl)
        try simp only [Act.put, List.setIfInBounds_toArray, List.set_cons_zero, List.set_cons_succ]
        refine wpAnyH_done (by kernel_rfl) ?_ _
        go_wp2
        go_ret
        refine ⟨?_, grow_on HBw.out hHeld.1⟩
        first | rfl | simp

theorem walk (a : Option Addr) (len cap : Nat) (zs : List Int) (w : World) (h : IsRow .u8 w a len cap zs) :
    Calls Tryz.prog 3 #[.slice a len cap] w fun e w' => e = .returned (.bool true) ∧ Below w.heap.size w w' := by
  obtain ⟨hl, hb⟩ := bytes_of h
  exact core a len cap w hl hb
theorem own : ownKnob Tryz.prog.godebug = none := by kernel_rfl
theorem laidOut : laidOutB Tryz.prog = true := by kernel_rfl
set_option maxRecDepth 100000 in
theorem lifted (os : Os) (started : os.Started) (H : Type) (enc : TypeId × Value → H) :
    ReturnsInHanded {} Tryz.checked os 3 .any (Rows.fnPartsSpec.pre6 enc Tryz.prog Tryz.f3 Rows.fnPartsRow.domain false) (Rows.fnPartsSpec.post enc Tryz.prog Tryz.f3 false true false false) := by
  refine returnsInHanded_of_change (C := Tryz.checked) own started (by kernel_rfl) Tryz.func3
    (ChangeSpec.witness6 (enc := enc) (C := Tryz.checked) false ⟨#[], #[.slice none 0 0], []⟩ 8 (by kernel_rfl) (by kernel_rfl) (by kernel_rfl) (by kernel_rfl)) ?_
  intro W base args ds gs before hval0 hW hcnd _
  have hval : ∀ (j : Nat) t v, Tryz.f3.params[j]? = some t → args[j]? = some v → Value.okWide Tryz.prog W .any base t v := hval0
  have hW' := hW
  obtain ⟨p, q, hA0, hV, rfl, hfz, hnd⟩ := hW
  have hA : DataW.TrodAll enc Tryz.prog W 0 (fun _ => true) true Tryz.f3.params.toList args.toList ds p := hA0
  rw [Tryz.params3] at hA hval
  obtain ⟨v0, vs0, d0, ds0, p0, q0, hargs, rfl, rfl, h0, r0⟩ := trodAll_cons hA
  obtain ⟨rfl, rfl, rfl⟩ := trodAll_nil r0
  obtain rfl : args = #[v0] := by cases args; simp_all
  obtain ⟨rfl, rfl⟩ := trodVars_none hV
  obtain ⟨a0, len0, cap0, rfl⟩ := okWide_slice Tryz.underlying22 (hval 0 22 v0 rfl rfl)
  have k0 := h0
  have lt0 : ∀ x ∈ p0, x.block < W.heap.size := by obtain ⟨m, hm⟩ := k0; exact DataW.trod_lt m _ _ _ hm
  obtain ⟨z0, w0⟩ : ∃ zs, IsRow .u8 W a0 len0 cap0 zs := by
    obtain ⟨fuel, hf⟩ := h0
    rcases open_ints Tryz.underlying22 Tryz.underlying5 (by kernel_rfl) hf with ⟨hcs, _⟩ | ⟨x, l, c, zs, hcs, _, hl, hm, hz, _, hcell, hwz⟩
    · simp [Value.cells] at hcs
      obtain ⟨rfl, rfl, rfl⟩ := hcs
      exact ⟨[], .inl ⟨rfl, rfl, rfl, rfl⟩⟩
    · simp [Value.cells] at hcs
      obtain ⟨rfl, rfl, rfl⟩ := hcs
      exact ⟨zs, .inr ⟨_, rfl, hl, hm, by simpa using hz, hcell, hwz⟩⟩
  clear hA0 hval0
  refine (walk a0 len0 cap0 z0 W w0).mono fun e W' ⟨he, bel⟩ => ?_
  subst he
  exact ⟨_, rfl, _, _, _, [], _, [], hW', trodAll_mk1 (shut_bool Tryz.underlying4 _), (trodAll_cons_mk (Below.trod laidOut (by kernel_rfl) (of_decide_eq_true (by kernel_rfl)) k0 bel lt0) trodAll_mk0), rfl, bel.frame _, fun h => by cases h⟩

theorem over : Rows.fnPartsRow.holds Tryz.pinned (OpenSpec.ofChange Rows.fnPartsSpec) :=
  OpenClaim.holds_of_wide 3 Tryz.f3 rfl rfl rfl rfl rfl rfl rfl ⟨rfl, rfl, rfl, rfl, rfl⟩ rfl rfl rfl rfl rfl (by kernel_rfl) Tryz.func3 (by kernel_rfl)
    (of_decide_eq_true (by kernel_rfl)) (by unfold Func.isWrapper; first | (rw [if_pos (by decide +kernel)]; kernel_rfl) | (rw [if_neg (by decide +kernel)]; exact ⟨rfl, rfl⟩))
    (fun os started H enc _ => lifted os started H enc)

end Go.Proofs.YtooninmicfcfoaaGreat.FnParts
namespace Go.Proofs.YtooninmicfcfoaaGreat
theorem fnParts_holds : Rows.FnPartsSaid := FnParts.over
#print axioms fnParts_holds
end Go.Proofs.YtooninmicfcfoaaGreat
