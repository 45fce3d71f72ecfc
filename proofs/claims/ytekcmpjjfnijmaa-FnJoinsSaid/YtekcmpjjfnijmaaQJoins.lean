/-
  PROVED: whatever the code, the law laws.FnJoins returns true and leaves the code as it was: who joins a drawn group is in it; sent on, all of it is in the batch, and what is over is not in it any more; each function of chapter 11 answers of what is drawn as the specification has it. No condition.
-/
import Derived.Test.YtekcmpjjfnijmaaRows
import Derived.WalkKit
import Derived.ProofKit
import Derived.OpenShut
import Derived.ShutString
import Derived.ChangeOld
import Derived.Below
import Derived.WalkLawsBesides
import Derived.WalkSpells
import Derived.Test.YtekcmpjjfnijmaaQGrpZ
import Derived.Deep.RegionHeld3
set_option linter.unusedVariables false
namespace Go.Proofs.Ytekcmpjjfnijmaa.FnJoins
open Go.ChangeShapes Go.WideShapes Go.ChangeAt Go.RowKit
open Go.ChangeMaps (open_string shut_string)

open Labs LabS Draw LawB Over Blk Alms AlmS Rws ChnI ChnC ChnK DrawC GrpO GrpG GrpJ GrpW GrpX GrpY GrpZ
open Pro (RdS)
theorem len10 {n : Nat} (h : n ≤ 10) : n ≤ 1048576 := by omega
set_option maxRecDepth 100000 in
set_option maxHeartbeats 40000000 in
theorem core (a : Option Addr) (len cap : Nat) (w : World) (hl : len ≤ maxLen) (hb : Bytes w a len w.heap.size) :
    Calls Try.prog 3 #[.slice a len cap] w fun e w' => e = .returned (.bool true) ∧ Below w.heap.size w w' := by
  have HB : Hid (Bytes w a len w.heap.size) := hb
  have HL : Hid (len ≤ maxLen) := hl
  clear hb hl
  by_cases hbig : (1048576 : Int) < (len : Int)
  · have HC : Hid (Calls Try.prog 9 #[.slice a len cap] w fun e w' => e = .returned (.bool true) ∧ w' = w) := (big_any a len cap w HL.out).mono fun e w' h => ⟨h.1.trans (retB (decide_eq_true hbig)), h.2⟩
    go_enter Try.func3, Try.ntmps3
    go_wp2_with fail
    refine HC.out.mono ?_
    rintro e w1 ⟨rfl, rfl⟩
    go_wp2
    go_ret
    exact ⟨rfl, Below.refl _ _⟩
  have HC : Hid (Calls Try.prog 9 #[.slice a len cap] w fun e w' => e = .returned (.bool false) ∧ w' = w) := (big_any a len cap w HL.out).mono fun e w' h => ⟨h.1.trans (retB (decide_eq_false hbig)), h.2⟩
  go_enter Try.func3, Try.ntmps3
  go_wp2_with fail
  refine HC.out.mono ?_
  rintro e wq ⟨rfl, hw⟩
  obtain rfl := hw.symm
  clear HC hw
  have B_z0 : Hid (Below w.heap.size w w) := Below.refl _ _
  go_upto_region 3 with fail
  go_wp2_with fail
  refine (drawJoinIn_any a len cap _ HL.out HB.out).mono ?_
  rintro e w1 ⟨⟨n1, b1, t1, K1, k1, M1, c1, key1, P1, ga, ca, x, rfl, hP, hx⟩, hb⟩
  obtain ⟨JL, hJ⟩ : ∃ JL, joinG P1 x = JL := ⟨_, rfl⟩
  have HJ : Hid (joinG P1 x = JL) := hJ
  have FJ : Hid (Fines JL ∧ JL.length ≤ 10 ∧ JL.length ≤ P1.length + 1) := join_few hJ hP.fine hx.2 hP.few
  obtain ⟨jx, hj1, hj2⟩ := join_has hJ
  have HX : Hid (jx < JL.length ∧ nthP JL jx = x) := ⟨hj1, hj2⟩
  have FX : Hid (Fine x) := hx.2
  have L1 : Hid (P1.length ≤ 9 ∧ key1.length ≤ maxLen) := ⟨hP.few, (RG.kl hP).2.1⟩
  clear hJ hj1 hj2
  have ND1 : Hid (RG w1 K1 M1 c1 key1 P1) := hP
  have NDX : Hid (DAl w1 ga x) := hx
  have B_w1 : Hid (Below w.heap.size w w1) := hb
  clear B_z0
  have D1_w1 : Hid (RG w1 K1 M1 c1 key1 P1) := ND1.out
  clear ND1
  have DX_w1 : Hid (DAl w1 ga x) := NDX.out
  clear NDX
  clear hb
  go_upto_region 4 with fail
  generalize hz : (w1.alloc (.cells #[.int .i64 n1, .slice (some ⟨K1, 0, none⟩) key1.length k1, .int .i64 b1, .int .i64 t1, .slice (some ⟨M1, 0, none⟩) P1.length c1] 27)).alloc (.cells #[.slice (some ⟨ga, 0, none⟩) x.l.length ca, .int .i64 x.s, .int .i64 x.e, .string x.n] 29) = z1
  have hbz : Below w1.heap.size w1 z1 := by rw [← hz]; exact Go.Joins.below_alloc2 w1 _ _
  have b1_z1 : Hid (Blk z1 w1.heap.size #[.int .i64 n1, .slice (some ⟨K1, 0, none⟩) key1.length k1, .int .i64 b1, .int .i64 t1, .slice (some ⟨M1, 0, none⟩) P1.length c1] 27) := by rw [← hz]; exact (Blk.new _ _ _).alloc _
  have bA_z1 : Hid (Blk z1 (w1.heap.size + 1) #[.slice (some ⟨ga, 0, none⟩) x.l.length ca, .int .i64 x.s, .int .i64 x.e, .string x.n] 29) := by rw [← hz]; exact Blk.new_at (by simp)
  clear hz
  have B_z1 : Hid (Below w.heap.size w z1) := grow_on B_w1.out hbz
  have D1_z1 : Hid (RG z1 K1 M1 c1 key1 P1) := D1_w1.out.below hbz
  have DX_z1 : Hid (DAl z1 ga x) := DX_w1.out.below hbz
  clear B_w1 D1_w1 DX_w1
  clear hbz
  have cb10 : z1.cell? ⟨w1.heap.size, 0, none⟩ = some (.int .i64 n1) := b1_z1.out.cell 0
  have cb11 : z1.cell? ⟨w1.heap.size, 1, none⟩ = some (.slice (some ⟨K1, 0, none⟩) key1.length k1) := b1_z1.out.cell 1
  have cb12 : z1.cell? ⟨w1.heap.size, 2, none⟩ = some (.int .i64 b1) := b1_z1.out.cell 2
  have cb13 : z1.cell? ⟨w1.heap.size, 3, none⟩ = some (.int .i64 t1) := b1_z1.out.cell 3
  have cb14 : z1.cell? ⟨w1.heap.size, 4, none⟩ = some (.slice (some ⟨M1, 0, none⟩) P1.length c1) := b1_z1.out.cell 4
  have cbA0 : z1.cell? ⟨(w1.heap.size + 1), 0, none⟩ = some (.slice (some ⟨ga, 0, none⟩) x.l.length ca) := bA_z1.out.cell 0
  have cbA1 : z1.cell? ⟨(w1.heap.size + 1), 1, none⟩ = some (.int .i64 x.s) := bA_z1.out.cell 1
  have cbA2 : z1.cell? ⟨(w1.heap.size + 1), 2, none⟩ = some (.int .i64 x.e) := bA_z1.out.cell 2
  have cbA3 : z1.cell? ⟨(w1.heap.size + 1), 3, none⟩ = some (.string x.n) := bA_z1.out.cell 3
  go_wp2_with fail
  refine (implJoinZ D1_z1.out DX_z1.out HJ.out).mono ?_
  rintro e w2 ⟨⟨Kx, kx, Mx, ox, cx, rfl, hk, hr⟩, hb⟩
  clear cb10 cb11 cb12 cb13 cb14 cbA0 cbA1 cbA2 cbA3
  have NKX : Hid (Reads w2 (some ⟨Kx, 0, none⟩) key1) := hk
  have NRX : Hid (RdN w2 (some ⟨Mx, ox, none⟩) JL) := hr
  have B_w2 : Hid (Below w.heap.size w w2) := grow_on B_z1.out hb
  have D1_w2 : Hid (RG w2 K1 M1 c1 key1 P1) := D1_z1.out.below hb
  have DX_w2 : Hid (DAl w2 ga x) := DX_z1.out.below hb
  have b1_w2 : Hid (Blk w2 w1.heap.size #[.int .i64 n1, .slice (some ⟨K1, 0, none⟩) key1.length k1, .int .i64 b1, .int .i64 t1, .slice (some ⟨M1, 0, none⟩) P1.length c1] 27) := b1_z1.out.grow hb
  have bA_w2 : Hid (Blk w2 (w1.heap.size + 1) #[.slice (some ⟨ga, 0, none⟩) x.l.length ca, .int .i64 x.s, .int .i64 x.e, .string x.n] 29) := bA_z1.out.grow hb
  clear B_z1 D1_z1 DX_z1 b1_z1 bA_z1
  have KX_w2 : Hid (Reads w2 (some ⟨Kx, 0, none⟩) key1) := NKX.out
  clear NKX
  have RX_w2 : Hid (RdN w2 (some ⟨Mx, ox, none⟩) JL) := NRX.out
  clear NRX
  clear hb
  go_upto_region 5 with fail
  generalize hz : w2.alloc (.cells #[.int .i64 n1, .slice (some ⟨Kx, 0, none⟩) key1.length kx, .int .i64 b1, .int .i64 t1, .slice (some ⟨Mx, ox, none⟩) JL.length cx] 27) = z2
  have hbz : Below w2.heap.size w2 z2 := by rw [← hz]; exact Go.Joins.below_alloc1 w2 _
  have bX_z2 : Hid (Blk z2 w2.heap.size #[.int .i64 n1, .slice (some ⟨Kx, 0, none⟩) key1.length kx, .int .i64 b1, .int .i64 t1, .slice (some ⟨Mx, ox, none⟩) JL.length cx] 27) := by rw [← hz]; exact (Blk.new _ _ _)
  clear hz
  have B_z2 : Hid (Below w.heap.size w z2) := grow_on B_w2.out hbz
  have D1_z2 : Hid (RG z2 K1 M1 c1 key1 P1) := D1_w2.out.below hbz
  have DX_z2 : Hid (DAl z2 ga x) := DX_w2.out.below hbz
  have b1_z2 : Hid (Blk z2 w1.heap.size #[.int .i64 n1, .slice (some ⟨K1, 0, none⟩) key1.length k1, .int .i64 b1, .int .i64 t1, .slice (some ⟨M1, 0, none⟩) P1.length c1] 27) := b1_w2.out.grow hbz
  have bA_z2 : Hid (Blk z2 (w1.heap.size + 1) #[.slice (some ⟨ga, 0, none⟩) x.l.length ca, .int .i64 x.s, .int .i64 x.e, .string x.n] 29) := bA_w2.out.grow hbz
  have KX_z2 : Hid (Reads z2 (some ⟨Kx, 0, none⟩) key1) := KX_w2.out.below hbz
  have RX_z2 : Hid (RdN z2 (some ⟨Mx, ox, none⟩) JL) := RX_w2.out.below hbz
  clear B_w2 D1_w2 DX_w2 b1_w2 bA_w2 KX_w2 RX_w2
  clear hbz
  go_wp2_with fail
  refine (drawFlush_any a len cap _ HL.out (bytes_up HB.out B_z2.out)).mono ?_
  rintro e w3 ⟨⟨n2, b2, t2, K2, k2, M2, c2, key2, P2, now, rfl, hP, hn0, hn1⟩, hb⟩
  obtain ⟨FL, hF⟩ : ∃ FL, leftTo P2 now P2.length = FL := ⟨_, rfl⟩
  have HF : Hid (leftTo P2 now P2.length = FL) := hF
  have FF : Hid (Fines FL ∧ FL.length ≤ 9 ∧ ∀ i, i < FL.length → overB (nthP FL i).e now = false) := left_few hF hP.fine hP.few
  have F2 : Hid (Fines P2 ∧ P2.length ≤ 9 ∧ key2.length ≤ maxLen) := ⟨hP.fine, hP.few, (RG.kl hP).2.1⟩
  clear hF hn0 hn1
  have ND2 : Hid (RG w3 K2 M2 c2 key2 P2) := hP
  have B_w3 : Hid (Below w.heap.size w w3) := grow_on B_z2.out hb
  have D1_w3 : Hid (RG w3 K1 M1 c1 key1 P1) := D1_z2.out.below hb
  have DX_w3 : Hid (DAl w3 ga x) := DX_z2.out.below hb
  have b1_w3 : Hid (Blk w3 w1.heap.size #[.int .i64 n1, .slice (some ⟨K1, 0, none⟩) key1.length k1, .int .i64 b1, .int .i64 t1, .slice (some ⟨M1, 0, none⟩) P1.length c1] 27) := b1_z2.out.grow hb
  have bA_w3 : Hid (Blk w3 (w1.heap.size + 1) #[.slice (some ⟨ga, 0, none⟩) x.l.length ca, .int .i64 x.s, .int .i64 x.e, .string x.n] 29) := bA_z2.out.grow hb
  have KX_w3 : Hid (Reads w3 (some ⟨Kx, 0, none⟩) key1) := KX_z2.out.below hb
  have RX_w3 : Hid (RdN w3 (some ⟨Mx, ox, none⟩) JL) := RX_z2.out.below hb
  have bX_w3 : Hid (Blk w3 w2.heap.size #[.int .i64 n1, .slice (some ⟨Kx, 0, none⟩) key1.length kx, .int .i64 b1, .int .i64 t1, .slice (some ⟨Mx, ox, none⟩) JL.length cx] 27) := bX_z2.out.grow hb
  clear B_z2 D1_z2 DX_z2 b1_z2 bA_z2 KX_z2 RX_z2 bX_z2
  have D2_w3 : Hid (RG w3 K2 M2 c2 key2 P2) := ND2.out
  clear ND2
  clear hb
  go_upto_region 6 with fail
  generalize hz : w3.alloc (.cells #[.int .i64 n2, .slice (some ⟨K2, 0, none⟩) key2.length k2, .int .i64 b2, .int .i64 t2, .slice (some ⟨M2, 0, none⟩) P2.length c2] 27) = z3
  have hbz : Below w3.heap.size w3 z3 := by rw [← hz]; exact Go.Joins.below_alloc1 w3 _
  have b2_z3 : Hid (Blk z3 w3.heap.size #[.int .i64 n2, .slice (some ⟨K2, 0, none⟩) key2.length k2, .int .i64 b2, .int .i64 t2, .slice (some ⟨M2, 0, none⟩) P2.length c2] 27) := by rw [← hz]; exact (Blk.new _ _ _)
  clear hz
  have B_z3 : Hid (Below w.heap.size w z3) := grow_on B_w3.out hbz
  have D1_z3 : Hid (RG z3 K1 M1 c1 key1 P1) := D1_w3.out.below hbz
  have DX_z3 : Hid (DAl z3 ga x) := DX_w3.out.below hbz
  have b1_z3 : Hid (Blk z3 w1.heap.size #[.int .i64 n1, .slice (some ⟨K1, 0, none⟩) key1.length k1, .int .i64 b1, .int .i64 t1, .slice (some ⟨M1, 0, none⟩) P1.length c1] 27) := b1_w3.out.grow hbz
  have bA_z3 : Hid (Blk z3 (w1.heap.size + 1) #[.slice (some ⟨ga, 0, none⟩) x.l.length ca, .int .i64 x.s, .int .i64 x.e, .string x.n] 29) := bA_w3.out.grow hbz
  have KX_z3 : Hid (Reads z3 (some ⟨Kx, 0, none⟩) key1) := KX_w3.out.below hbz
  have RX_z3 : Hid (RdN z3 (some ⟨Mx, ox, none⟩) JL) := RX_w3.out.below hbz
  have bX_z3 : Hid (Blk z3 w2.heap.size #[.int .i64 n1, .slice (some ⟨Kx, 0, none⟩) key1.length kx, .int .i64 b1, .int .i64 t1, .slice (some ⟨Mx, ox, none⟩) JL.length cx] 27) := bX_w3.out.grow hbz
  have D2_z3 : Hid (RG z3 K2 M2 c2 key2 P2) := D2_w3.out.below hbz
  clear B_w3 D1_w3 DX_w3 b1_w3 bA_w3 KX_w3 RX_w3 bX_w3 D2_w3
  clear hbz
  have cb20 : z3.cell? ⟨w3.heap.size, 0, none⟩ = some (.int .i64 n2) := b2_z3.out.cell 0
  have cb21 : z3.cell? ⟨w3.heap.size, 1, none⟩ = some (.slice (some ⟨K2, 0, none⟩) key2.length k2) := b2_z3.out.cell 1
  have cb22 : z3.cell? ⟨w3.heap.size, 2, none⟩ = some (.int .i64 b2) := b2_z3.out.cell 2
  have cb23 : z3.cell? ⟨w3.heap.size, 3, none⟩ = some (.int .i64 t2) := b2_z3.out.cell 3
  have cb24 : z3.cell? ⟨w3.heap.size, 4, none⟩ = some (.slice (some ⟨M2, 0, none⟩) P2.length c2) := b2_z3.out.cell 4
  go_wp2_with fail
  refine (implFlushZ D2_z3.out HF.out).mono ?_
  rintro e w4 ⟨⟨Ky, ky, My, oy, cy, Kq, kq, Mq, oq, cq, rfl, h1, h2, h3, h4⟩, hb⟩
  clear cb20 cb21 cb22 cb23 cb24
  have NKy : Hid (Reads w4 (some ⟨Ky, 0, none⟩) key2) := h1
  have NRy : Hid (RdN w4 (some ⟨My, oy, none⟩) FL) := h2
  have NKq : Hid (Reads w4 (some ⟨Kq, 0, none⟩) key2) := h3
  have NRq : Hid (RdN w4 (some ⟨Mq, oq, none⟩) P2) := h4
  have B_w4 : Hid (Below w.heap.size w w4) := grow_on B_z3.out hb
  have D1_w4 : Hid (RG w4 K1 M1 c1 key1 P1) := D1_z3.out.below hb
  have DX_w4 : Hid (DAl w4 ga x) := DX_z3.out.below hb
  have b1_w4 : Hid (Blk w4 w1.heap.size #[.int .i64 n1, .slice (some ⟨K1, 0, none⟩) key1.length k1, .int .i64 b1, .int .i64 t1, .slice (some ⟨M1, 0, none⟩) P1.length c1] 27) := b1_z3.out.grow hb
  have bA_w4 : Hid (Blk w4 (w1.heap.size + 1) #[.slice (some ⟨ga, 0, none⟩) x.l.length ca, .int .i64 x.s, .int .i64 x.e, .string x.n] 29) := bA_z3.out.grow hb
  have KX_w4 : Hid (Reads w4 (some ⟨Kx, 0, none⟩) key1) := KX_z3.out.below hb
  have RX_w4 : Hid (RdN w4 (some ⟨Mx, ox, none⟩) JL) := RX_z3.out.below hb
  have bX_w4 : Hid (Blk w4 w2.heap.size #[.int .i64 n1, .slice (some ⟨Kx, 0, none⟩) key1.length kx, .int .i64 b1, .int .i64 t1, .slice (some ⟨Mx, ox, none⟩) JL.length cx] 27) := bX_z3.out.grow hb
  have D2_w4 : Hid (RG w4 K2 M2 c2 key2 P2) := D2_z3.out.below hb
  have b2_w4 : Hid (Blk w4 w3.heap.size #[.int .i64 n2, .slice (some ⟨K2, 0, none⟩) key2.length k2, .int .i64 b2, .int .i64 t2, .slice (some ⟨M2, 0, none⟩) P2.length c2] 27) := b2_z3.out.grow hb
  clear B_z3 D1_z3 DX_z3 b1_z3 bA_z3 KX_z3 RX_z3 bX_z3 D2_z3 b2_z3
  have Ky_w4 : Hid (Reads w4 (some ⟨Ky, 0, none⟩) key2) := NKy.out
  clear NKy
  have Ry_w4 : Hid (RdN w4 (some ⟨My, oy, none⟩) FL) := NRy.out
  clear NRy
  have Kq_w4 : Hid (Reads w4 (some ⟨Kq, 0, none⟩) key2) := NKq.out
  clear NKq
  have Rq_w4 : Hid (RdN w4 (some ⟨Mq, oq, none⟩) P2) := NRq.out
  clear NRq
  clear hb
  go_upto_region 7 with fail
  generalize hz : (w4.alloc (.cells #[.int .i64 n2, .slice (some ⟨Ky, 0, none⟩) key2.length ky, .int .i64 b2, .int .i64 now, .slice (some ⟨My, oy, none⟩) FL.length cy] 27)).alloc (.cells #[.int .i64 n2, .slice (some ⟨Kq, 0, none⟩) key2.length kq, .int .i64 now, .slice (some ⟨Mq, oq, none⟩) P2.length cq] 36) = z4
  have hbz : Below w4.heap.size w4 z4 := by rw [← hz]; exact Go.Joins.below_alloc2 w4 _ _
  have bY_z4 : Hid (Blk z4 w4.heap.size #[.int .i64 n2, .slice (some ⟨Ky, 0, none⟩) key2.length ky, .int .i64 b2, .int .i64 now, .slice (some ⟨My, oy, none⟩) FL.length cy] 27) := by rw [← hz]; exact (Blk.new _ _ _).alloc _
  have bB_z4 : Hid (Blk z4 (w4.heap.size + 1) #[.int .i64 n2, .slice (some ⟨Kq, 0, none⟩) key2.length kq, .int .i64 now, .slice (some ⟨Mq, oq, none⟩) P2.length cq] 36) := by rw [← hz]; exact Blk.new_at (by simp)
  clear hz
  have B_z4 : Hid (Below w.heap.size w z4) := grow_on B_w4.out hbz
  have D1_z4 : Hid (RG z4 K1 M1 c1 key1 P1) := D1_w4.out.below hbz
  have DX_z4 : Hid (DAl z4 ga x) := DX_w4.out.below hbz
  have b1_z4 : Hid (Blk z4 w1.heap.size #[.int .i64 n1, .slice (some ⟨K1, 0, none⟩) key1.length k1, .int .i64 b1, .int .i64 t1, .slice (some ⟨M1, 0, none⟩) P1.length c1] 27) := b1_w4.out.grow hbz
  have bA_z4 : Hid (Blk z4 (w1.heap.size + 1) #[.slice (some ⟨ga, 0, none⟩) x.l.length ca, .int .i64 x.s, .int .i64 x.e, .string x.n] 29) := bA_w4.out.grow hbz
  have KX_z4 : Hid (Reads z4 (some ⟨Kx, 0, none⟩) key1) := KX_w4.out.below hbz
  have RX_z4 : Hid (RdN z4 (some ⟨Mx, ox, none⟩) JL) := RX_w4.out.below hbz
  have bX_z4 : Hid (Blk z4 w2.heap.size #[.int .i64 n1, .slice (some ⟨Kx, 0, none⟩) key1.length kx, .int .i64 b1, .int .i64 t1, .slice (some ⟨Mx, ox, none⟩) JL.length cx] 27) := bX_w4.out.grow hbz
  have D2_z4 : Hid (RG z4 K2 M2 c2 key2 P2) := D2_w4.out.below hbz
  have b2_z4 : Hid (Blk z4 w3.heap.size #[.int .i64 n2, .slice (some ⟨K2, 0, none⟩) key2.length k2, .int .i64 b2, .int .i64 t2, .slice (some ⟨M2, 0, none⟩) P2.length c2] 27) := b2_w4.out.grow hbz
  have Ky_z4 : Hid (Reads z4 (some ⟨Ky, 0, none⟩) key2) := Ky_w4.out.below hbz
  have Ry_z4 : Hid (RdN z4 (some ⟨My, oy, none⟩) FL) := Ry_w4.out.below hbz
  have Kq_z4 : Hid (Reads z4 (some ⟨Kq, 0, none⟩) key2) := Kq_w4.out.below hbz
  have Rq_z4 : Hid (RdN z4 (some ⟨Mq, oq, none⟩) P2) := Rq_w4.out.below hbz
  clear B_w4 D1_w4 DX_w4 b1_w4 bA_w4 KX_w4 RX_w4 bX_w4 D2_w4 b2_w4 Ky_w4 Ry_w4 Kq_w4 Rq_w4
  clear hbz
  have cb20 : z4.cell? ⟨w3.heap.size, 0, none⟩ = some (.int .i64 n2) := b2_z4.out.cell 0
  have cb21 : z4.cell? ⟨w3.heap.size, 1, none⟩ = some (.slice (some ⟨K2, 0, none⟩) key2.length k2) := b2_z4.out.cell 1
  have cb22 : z4.cell? ⟨w3.heap.size, 2, none⟩ = some (.int .i64 b2) := b2_z4.out.cell 2
  have cb23 : z4.cell? ⟨w3.heap.size, 3, none⟩ = some (.int .i64 t2) := b2_z4.out.cell 3
  have cb24 : z4.cell? ⟨w3.heap.size, 4, none⟩ = some (.slice (some ⟨M2, 0, none⟩) P2.length c2) := b2_z4.out.cell 4
  go_wp2_with fail
  refine (specFlushZ D2_z4.out HF.out).mono ?_
  rintro e w5 ⟨⟨Kz, kz, Mz, oz, cz, Kr, kr, Mr, or, cr, rfl, h1, h2, h3, h4⟩, hb⟩
  clear cb20 cb21 cb22 cb23 cb24
  have NKz : Hid (Reads w5 (some ⟨Kz, 0, none⟩) key2) := h1
  have NRz : Hid (RdN w5 (some ⟨Mz, oz, none⟩) FL) := h2
  have NKr : Hid (Reads w5 (some ⟨Kr, 0, none⟩) key2) := h3
  have NRr : Hid (RdN w5 (some ⟨Mr, or, none⟩) P2) := h4
  have B_w5 : Hid (Below w.heap.size w w5) := grow_on B_z4.out hb
  have D1_w5 : Hid (RG w5 K1 M1 c1 key1 P1) := D1_z4.out.below hb
  have DX_w5 : Hid (DAl w5 ga x) := DX_z4.out.below hb
  have b1_w5 : Hid (Blk w5 w1.heap.size #[.int .i64 n1, .slice (some ⟨K1, 0, none⟩) key1.length k1, .int .i64 b1, .int .i64 t1, .slice (some ⟨M1, 0, none⟩) P1.length c1] 27) := b1_z4.out.grow hb
  have bA_w5 : Hid (Blk w5 (w1.heap.size + 1) #[.slice (some ⟨ga, 0, none⟩) x.l.length ca, .int .i64 x.s, .int .i64 x.e, .string x.n] 29) := bA_z4.out.grow hb
  have KX_w5 : Hid (Reads w5 (some ⟨Kx, 0, none⟩) key1) := KX_z4.out.below hb
  have RX_w5 : Hid (RdN w5 (some ⟨Mx, ox, none⟩) JL) := RX_z4.out.below hb
  have bX_w5 : Hid (Blk w5 w2.heap.size #[.int .i64 n1, .slice (some ⟨Kx, 0, none⟩) key1.length kx, .int .i64 b1, .int .i64 t1, .slice (some ⟨Mx, ox, none⟩) JL.length cx] 27) := bX_z4.out.grow hb
  have D2_w5 : Hid (RG w5 K2 M2 c2 key2 P2) := D2_z4.out.below hb
  have b2_w5 : Hid (Blk w5 w3.heap.size #[.int .i64 n2, .slice (some ⟨K2, 0, none⟩) key2.length k2, .int .i64 b2, .int .i64 t2, .slice (some ⟨M2, 0, none⟩) P2.length c2] 27) := b2_z4.out.grow hb
  have Ky_w5 : Hid (Reads w5 (some ⟨Ky, 0, none⟩) key2) := Ky_z4.out.below hb
  have Ry_w5 : Hid (RdN w5 (some ⟨My, oy, none⟩) FL) := Ry_z4.out.below hb
  have Kq_w5 : Hid (Reads w5 (some ⟨Kq, 0, none⟩) key2) := Kq_z4.out.below hb
  have Rq_w5 : Hid (RdN w5 (some ⟨Mq, oq, none⟩) P2) := Rq_z4.out.below hb
  have bY_w5 : Hid (Blk w5 w4.heap.size #[.int .i64 n2, .slice (some ⟨Ky, 0, none⟩) key2.length ky, .int .i64 b2, .int .i64 now, .slice (some ⟨My, oy, none⟩) FL.length cy] 27) := bY_z4.out.grow hb
  have bB_w5 : Hid (Blk w5 (w4.heap.size + 1) #[.int .i64 n2, .slice (some ⟨Kq, 0, none⟩) key2.length kq, .int .i64 now, .slice (some ⟨Mq, oq, none⟩) P2.length cq] 36) := bB_z4.out.grow hb
  clear B_z4 D1_z4 DX_z4 b1_z4 bA_z4 KX_z4 RX_z4 bX_z4 D2_z4 b2_z4 Ky_z4 Ry_z4 Kq_z4 Rq_z4 bY_z4 bB_z4
  have Kz_w5 : Hid (Reads w5 (some ⟨Kz, 0, none⟩) key2) := NKz.out
  clear NKz
  have Rz_w5 : Hid (RdN w5 (some ⟨Mz, oz, none⟩) FL) := NRz.out
  clear NRz
  have Kr_w5 : Hid (Reads w5 (some ⟨Kr, 0, none⟩) key2) := NKr.out
  clear NKr
  have Rr_w5 : Hid (RdN w5 (some ⟨Mr, or, none⟩) P2) := NRr.out
  clear NRr
  clear hb
  go_upto_region 8 with fail
  generalize hz : (w5.alloc (.cells #[.int .i64 n2, .slice (some ⟨Kz, 0, none⟩) key2.length kz, .int .i64 b2, .int .i64 now, .slice (some ⟨Mz, oz, none⟩) FL.length cz] 27)).alloc (.cells #[.int .i64 n2, .slice (some ⟨Kr, 0, none⟩) key2.length kr, .int .i64 now, .slice (some ⟨Mr, or, none⟩) P2.length cr] 36) = z5
  have hbz : Below w5.heap.size w5 z5 := by rw [← hz]; exact Go.Joins.below_alloc2 w5 _ _
  have bZ_z5 : Hid (Blk z5 w5.heap.size #[.int .i64 n2, .slice (some ⟨Kz, 0, none⟩) key2.length kz, .int .i64 b2, .int .i64 now, .slice (some ⟨Mz, oz, none⟩) FL.length cz] 27) := by rw [← hz]; exact (Blk.new _ _ _).alloc _
  have bC_z5 : Hid (Blk z5 (w5.heap.size + 1) #[.int .i64 n2, .slice (some ⟨Kr, 0, none⟩) key2.length kr, .int .i64 now, .slice (some ⟨Mr, or, none⟩) P2.length cr] 36) := by rw [← hz]; exact Blk.new_at (by simp)
  clear hz
  have B_z5 : Hid (Below w.heap.size w z5) := grow_on B_w5.out hbz
  have D1_z5 : Hid (RG z5 K1 M1 c1 key1 P1) := D1_w5.out.below hbz
  have DX_z5 : Hid (DAl z5 ga x) := DX_w5.out.below hbz
  have b1_z5 : Hid (Blk z5 w1.heap.size #[.int .i64 n1, .slice (some ⟨K1, 0, none⟩) key1.length k1, .int .i64 b1, .int .i64 t1, .slice (some ⟨M1, 0, none⟩) P1.length c1] 27) := b1_w5.out.grow hbz
  have bA_z5 : Hid (Blk z5 (w1.heap.size + 1) #[.slice (some ⟨ga, 0, none⟩) x.l.length ca, .int .i64 x.s, .int .i64 x.e, .string x.n] 29) := bA_w5.out.grow hbz
  have KX_z5 : Hid (Reads z5 (some ⟨Kx, 0, none⟩) key1) := KX_w5.out.below hbz
  have RX_z5 : Hid (RdN z5 (some ⟨Mx, ox, none⟩) JL) := RX_w5.out.below hbz
  have bX_z5 : Hid (Blk z5 w2.heap.size #[.int .i64 n1, .slice (some ⟨Kx, 0, none⟩) key1.length kx, .int .i64 b1, .int .i64 t1, .slice (some ⟨Mx, ox, none⟩) JL.length cx] 27) := bX_w5.out.grow hbz
  have D2_z5 : Hid (RG z5 K2 M2 c2 key2 P2) := D2_w5.out.below hbz
  have b2_z5 : Hid (Blk z5 w3.heap.size #[.int .i64 n2, .slice (some ⟨K2, 0, none⟩) key2.length k2, .int .i64 b2, .int .i64 t2, .slice (some ⟨M2, 0, none⟩) P2.length c2] 27) := b2_w5.out.grow hbz
  have Ky_z5 : Hid (Reads z5 (some ⟨Ky, 0, none⟩) key2) := Ky_w5.out.below hbz
  have Ry_z5 : Hid (RdN z5 (some ⟨My, oy, none⟩) FL) := Ry_w5.out.below hbz
  have Kq_z5 : Hid (Reads z5 (some ⟨Kq, 0, none⟩) key2) := Kq_w5.out.below hbz
  have Rq_z5 : Hid (RdN z5 (some ⟨Mq, oq, none⟩) P2) := Rq_w5.out.below hbz
  have bY_z5 : Hid (Blk z5 w4.heap.size #[.int .i64 n2, .slice (some ⟨Ky, 0, none⟩) key2.length ky, .int .i64 b2, .int .i64 now, .slice (some ⟨My, oy, none⟩) FL.length cy] 27) := bY_w5.out.grow hbz
  have bB_z5 : Hid (Blk z5 (w4.heap.size + 1) #[.int .i64 n2, .slice (some ⟨Kq, 0, none⟩) key2.length kq, .int .i64 now, .slice (some ⟨Mq, oq, none⟩) P2.length cq] 36) := bB_w5.out.grow hbz
  have Kz_z5 : Hid (Reads z5 (some ⟨Kz, 0, none⟩) key2) := Kz_w5.out.below hbz
  have Rz_z5 : Hid (RdN z5 (some ⟨Mz, oz, none⟩) FL) := Rz_w5.out.below hbz
  have Kr_z5 : Hid (Reads z5 (some ⟨Kr, 0, none⟩) key2) := Kr_w5.out.below hbz
  have Rr_z5 : Hid (RdN z5 (some ⟨Mr, or, none⟩) P2) := Rr_w5.out.below hbz
  clear B_w5 D1_w5 DX_w5 b1_w5 bA_w5 KX_w5 RX_w5 bX_w5 D2_w5 b2_w5 Ky_w5 Ry_w5 Kq_w5 Rq_w5 bY_w5 bB_w5 Kz_w5 Rz_w5 Kr_w5 Rr_w5
  clear hbz
  go_wp2_with fail
  refine (drawGroupOk_any a len cap _ HL.out (bytes_up HB.out B_z5.out)).mono ?_
  rintro e w6 ⟨⟨n5, b5, t5, K5, k5, M5, c5, key5, P5, gb, gc, by', rfl, hP, hby, h2⟩, hb⟩
  have HB2 : Hid (by'.length ≤ maxLen) := by unfold Hid maxLen; omega
  clear h2
  have ND5 : Hid (RG w6 K5 M5 c5 key5 P5) := hP
  have NDB : Hid (RdS w6 (some ⟨gb, 0, none⟩) by') := hby
  have B_w6 : Hid (Below w.heap.size w w6) := grow_on B_z5.out hb
  have D1_w6 : Hid (RG w6 K1 M1 c1 key1 P1) := D1_z5.out.below hb
  have DX_w6 : Hid (DAl w6 ga x) := DX_z5.out.below hb
  have b1_w6 : Hid (Blk w6 w1.heap.size #[.int .i64 n1, .slice (some ⟨K1, 0, none⟩) key1.length k1, .int .i64 b1, .int .i64 t1, .slice (some ⟨M1, 0, none⟩) P1.length c1] 27) := b1_z5.out.grow hb
  have bA_w6 : Hid (Blk w6 (w1.heap.size + 1) #[.slice (some ⟨ga, 0, none⟩) x.l.length ca, .int .i64 x.s, .int .i64 x.e, .string x.n] 29) := bA_z5.out.grow hb
  have KX_w6 : Hid (Reads w6 (some ⟨Kx, 0, none⟩) key1) := KX_z5.out.below hb
  have RX_w6 : Hid (RdN w6 (some ⟨Mx, ox, none⟩) JL) := RX_z5.out.below hb
  have bX_w6 : Hid (Blk w6 w2.heap.size #[.int .i64 n1, .slice (some ⟨Kx, 0, none⟩) key1.length kx, .int .i64 b1, .int .i64 t1, .slice (some ⟨Mx, ox, none⟩) JL.length cx] 27) := bX_z5.out.grow hb
  have D2_w6 : Hid (RG w6 K2 M2 c2 key2 P2) := D2_z5.out.below hb
  have b2_w6 : Hid (Blk w6 w3.heap.size #[.int .i64 n2, .slice (some ⟨K2, 0, none⟩) key2.length k2, .int .i64 b2, .int .i64 t2, .slice (some ⟨M2, 0, none⟩) P2.length c2] 27) := b2_z5.out.grow hb
  have Ky_w6 : Hid (Reads w6 (some ⟨Ky, 0, none⟩) key2) := Ky_z5.out.below hb
  have Ry_w6 : Hid (RdN w6 (some ⟨My, oy, none⟩) FL) := Ry_z5.out.below hb
  have Kq_w6 : Hid (Reads w6 (some ⟨Kq, 0, none⟩) key2) := Kq_z5.out.below hb
  have Rq_w6 : Hid (RdN w6 (some ⟨Mq, oq, none⟩) P2) := Rq_z5.out.below hb
  have bY_w6 : Hid (Blk w6 w4.heap.size #[.int .i64 n2, .slice (some ⟨Ky, 0, none⟩) key2.length ky, .int .i64 b2, .int .i64 now, .slice (some ⟨My, oy, none⟩) FL.length cy] 27) := bY_z5.out.grow hb
  have bB_w6 : Hid (Blk w6 (w4.heap.size + 1) #[.int .i64 n2, .slice (some ⟨Kq, 0, none⟩) key2.length kq, .int .i64 now, .slice (some ⟨Mq, oq, none⟩) P2.length cq] 36) := bB_z5.out.grow hb
  have Kz_w6 : Hid (Reads w6 (some ⟨Kz, 0, none⟩) key2) := Kz_z5.out.below hb
  have Rz_w6 : Hid (RdN w6 (some ⟨Mz, oz, none⟩) FL) := Rz_z5.out.below hb
  have Kr_w6 : Hid (Reads w6 (some ⟨Kr, 0, none⟩) key2) := Kr_z5.out.below hb
  have Rr_w6 : Hid (RdN w6 (some ⟨Mr, or, none⟩) P2) := Rr_z5.out.below hb
  have bZ_w6 : Hid (Blk w6 w5.heap.size #[.int .i64 n2, .slice (some ⟨Kz, 0, none⟩) key2.length kz, .int .i64 b2, .int .i64 now, .slice (some ⟨Mz, oz, none⟩) FL.length cz] 27) := bZ_z5.out.grow hb
  have bC_w6 : Hid (Blk w6 (w5.heap.size + 1) #[.int .i64 n2, .slice (some ⟨Kr, 0, none⟩) key2.length kr, .int .i64 now, .slice (some ⟨Mr, or, none⟩) P2.length cr] 36) := bC_z5.out.grow hb
  clear B_z5 D1_z5 DX_z5 b1_z5 bA_z5 KX_z5 RX_z5 bX_z5 D2_z5 b2_z5 Ky_z5 Ry_z5 Kq_z5 Rq_z5 bY_z5 bB_z5 Kz_z5 Rz_z5 Kr_z5 Rr_z5 bZ_z5 bC_z5
  have D5_w6 : Hid (RG w6 K5 M5 c5 key5 P5) := ND5.out
  clear ND5
  have DB_w6 : Hid (RdS w6 (some ⟨gb, 0, none⟩) by') := NDB.out
  clear NDB
  clear hb
  go_upto_region 9 with fail
  generalize hz : w6.alloc (.cells #[.int .i64 n5, .slice (some ⟨K5, 0, none⟩) key5.length k5, .int .i64 b5, .int .i64 t5, .slice (some ⟨M5, 0, none⟩) P5.length c5] 27) = z6
  have hbz : Below w6.heap.size w6 z6 := by rw [← hz]; exact Go.Joins.below_alloc1 w6 _
  have b5_z6 : Hid (Blk z6 w6.heap.size #[.int .i64 n5, .slice (some ⟨K5, 0, none⟩) key5.length k5, .int .i64 b5, .int .i64 t5, .slice (some ⟨M5, 0, none⟩) P5.length c5] 27) := by rw [← hz]; exact (Blk.new _ _ _)
  clear hz
  have B_z6 : Hid (Below w.heap.size w z6) := grow_on B_w6.out hbz
  have D1_z6 : Hid (RG z6 K1 M1 c1 key1 P1) := D1_w6.out.below hbz
  have DX_z6 : Hid (DAl z6 ga x) := DX_w6.out.below hbz
  have b1_z6 : Hid (Blk z6 w1.heap.size #[.int .i64 n1, .slice (some ⟨K1, 0, none⟩) key1.length k1, .int .i64 b1, .int .i64 t1, .slice (some ⟨M1, 0, none⟩) P1.length c1] 27) := b1_w6.out.grow hbz
  have bA_z6 : Hid (Blk z6 (w1.heap.size + 1) #[.slice (some ⟨ga, 0, none⟩) x.l.length ca, .int .i64 x.s, .int .i64 x.e, .string x.n] 29) := bA_w6.out.grow hbz
  have KX_z6 : Hid (Reads z6 (some ⟨Kx, 0, none⟩) key1) := KX_w6.out.below hbz
  have RX_z6 : Hid (RdN z6 (some ⟨Mx, ox, none⟩) JL) := RX_w6.out.below hbz
  have bX_z6 : Hid (Blk z6 w2.heap.size #[.int .i64 n1, .slice (some ⟨Kx, 0, none⟩) key1.length kx, .int .i64 b1, .int .i64 t1, .slice (some ⟨Mx, ox, none⟩) JL.length cx] 27) := bX_w6.out.grow hbz
  have D2_z6 : Hid (RG z6 K2 M2 c2 key2 P2) := D2_w6.out.below hbz
  have b2_z6 : Hid (Blk z6 w3.heap.size #[.int .i64 n2, .slice (some ⟨K2, 0, none⟩) key2.length k2, .int .i64 b2, .int .i64 t2, .slice (some ⟨M2, 0, none⟩) P2.length c2] 27) := b2_w6.out.grow hbz
  have Ky_z6 : Hid (Reads z6 (some ⟨Ky, 0, none⟩) key2) := Ky_w6.out.below hbz
  have Ry_z6 : Hid (RdN z6 (some ⟨My, oy, none⟩) FL) := Ry_w6.out.below hbz
  have Kq_z6 : Hid (Reads z6 (some ⟨Kq, 0, none⟩) key2) := Kq_w6.out.below hbz
  have Rq_z6 : Hid (RdN z6 (some ⟨Mq, oq, none⟩) P2) := Rq_w6.out.below hbz
  have bY_z6 : Hid (Blk z6 w4.heap.size #[.int .i64 n2, .slice (some ⟨Ky, 0, none⟩) key2.length ky, .int .i64 b2, .int .i64 now, .slice (some ⟨My, oy, none⟩) FL.length cy] 27) := bY_w6.out.grow hbz
  have bB_z6 : Hid (Blk z6 (w4.heap.size + 1) #[.int .i64 n2, .slice (some ⟨Kq, 0, none⟩) key2.length kq, .int .i64 now, .slice (some ⟨Mq, oq, none⟩) P2.length cq] 36) := bB_w6.out.grow hbz
  have Kz_z6 : Hid (Reads z6 (some ⟨Kz, 0, none⟩) key2) := Kz_w6.out.below hbz
  have Rz_z6 : Hid (RdN z6 (some ⟨Mz, oz, none⟩) FL) := Rz_w6.out.below hbz
  have Kr_z6 : Hid (Reads z6 (some ⟨Kr, 0, none⟩) key2) := Kr_w6.out.below hbz
  have Rr_z6 : Hid (RdN z6 (some ⟨Mr, or, none⟩) P2) := Rr_w6.out.below hbz
  have bZ_z6 : Hid (Blk z6 w5.heap.size #[.int .i64 n2, .slice (some ⟨Kz, 0, none⟩) key2.length kz, .int .i64 b2, .int .i64 now, .slice (some ⟨Mz, oz, none⟩) FL.length cz] 27) := bZ_w6.out.grow hbz
  have bC_z6 : Hid (Blk z6 (w5.heap.size + 1) #[.int .i64 n2, .slice (some ⟨Kr, 0, none⟩) key2.length kr, .int .i64 now, .slice (some ⟨Mr, or, none⟩) P2.length cr] 36) := bC_w6.out.grow hbz
  have D5_z6 : Hid (RG z6 K5 M5 c5 key5 P5) := D5_w6.out.below hbz
  have DB_z6 : Hid (RdS z6 (some ⟨gb, 0, none⟩) by') := DB_w6.out.below hbz
  clear B_w6 D1_w6 DX_w6 b1_w6 bA_w6 KX_w6 RX_w6 bX_w6 D2_w6 b2_w6 Ky_w6 Ry_w6 Kq_w6 Rq_w6 bY_w6 bB_w6 Kz_w6 Rz_w6 Kr_w6 Rr_w6 bZ_w6 bC_w6 D5_w6 DB_w6
  clear hbz
  go_wp2_with fail
  refine (drawSameGroup_any a len cap _ HL.out (bytes_up HB.out B_z6.out)).mono ?_
  rintro e w7 ⟨⟨n6, b6, t6, K6, k6, M6, c6, key6, P6, n7, b7, t7, K7, k7, M7, c7, key7, P7, rfl, hP, hQ⟩, hb⟩
  have ND6 : Hid (RG w7 K6 M6 c6 key6 P6) := hP
  have ND7 : Hid (RG w7 K7 M7 c7 key7 P7) := hQ
  have B_w7 : Hid (Below w.heap.size w w7) := grow_on B_z6.out hb
  have D1_w7 : Hid (RG w7 K1 M1 c1 key1 P1) := D1_z6.out.below hb
  have DX_w7 : Hid (DAl w7 ga x) := DX_z6.out.below hb
  have b1_w7 : Hid (Blk w7 w1.heap.size #[.int .i64 n1, .slice (some ⟨K1, 0, none⟩) key1.length k1, .int .i64 b1, .int .i64 t1, .slice (some ⟨M1, 0, none⟩) P1.length c1] 27) := b1_z6.out.grow hb
  have bA_w7 : Hid (Blk w7 (w1.heap.size + 1) #[.slice (some ⟨ga, 0, none⟩) x.l.length ca, .int .i64 x.s, .int .i64 x.e, .string x.n] 29) := bA_z6.out.grow hb
  have KX_w7 : Hid (Reads w7 (some ⟨Kx, 0, none⟩) key1) := KX_z6.out.below hb
  have RX_w7 : Hid (RdN w7 (some ⟨Mx, ox, none⟩) JL) := RX_z6.out.below hb
  have bX_w7 : Hid (Blk w7 w2.heap.size #[.int .i64 n1, .slice (some ⟨Kx, 0, none⟩) key1.length kx, .int .i64 b1, .int .i64 t1, .slice (some ⟨Mx, ox, none⟩) JL.length cx] 27) := bX_z6.out.grow hb
  have D2_w7 : Hid (RG w7 K2 M2 c2 key2 P2) := D2_z6.out.below hb
  have b2_w7 : Hid (Blk w7 w3.heap.size #[.int .i64 n2, .slice (some ⟨K2, 0, none⟩) key2.length k2, .int .i64 b2, .int .i64 t2, .slice (some ⟨M2, 0, none⟩) P2.length c2] 27) := b2_z6.out.grow hb
  have Ky_w7 : Hid (Reads w7 (some ⟨Ky, 0, none⟩) key2) := Ky_z6.out.below hb
  have Ry_w7 : Hid (RdN w7 (some ⟨My, oy, none⟩) FL) := Ry_z6.out.below hb
  have Kq_w7 : Hid (Reads w7 (some ⟨Kq, 0, none⟩) key2) := Kq_z6.out.below hb
  have Rq_w7 : Hid (RdN w7 (some ⟨Mq, oq, none⟩) P2) := Rq_z6.out.below hb
  have bY_w7 : Hid (Blk w7 w4.heap.size #[.int .i64 n2, .slice (some ⟨Ky, 0, none⟩) key2.length ky, .int .i64 b2, .int .i64 now, .slice (some ⟨My, oy, none⟩) FL.length cy] 27) := bY_z6.out.grow hb
  have bB_w7 : Hid (Blk w7 (w4.heap.size + 1) #[.int .i64 n2, .slice (some ⟨Kq, 0, none⟩) key2.length kq, .int .i64 now, .slice (some ⟨Mq, oq, none⟩) P2.length cq] 36) := bB_z6.out.grow hb
  have Kz_w7 : Hid (Reads w7 (some ⟨Kz, 0, none⟩) key2) := Kz_z6.out.below hb
  have Rz_w7 : Hid (RdN w7 (some ⟨Mz, oz, none⟩) FL) := Rz_z6.out.below hb
  have Kr_w7 : Hid (Reads w7 (some ⟨Kr, 0, none⟩) key2) := Kr_z6.out.below hb
  have Rr_w7 : Hid (RdN w7 (some ⟨Mr, or, none⟩) P2) := Rr_z6.out.below hb
  have bZ_w7 : Hid (Blk w7 w5.heap.size #[.int .i64 n2, .slice (some ⟨Kz, 0, none⟩) key2.length kz, .int .i64 b2, .int .i64 now, .slice (some ⟨Mz, oz, none⟩) FL.length cz] 27) := bZ_z6.out.grow hb
  have bC_w7 : Hid (Blk w7 (w5.heap.size + 1) #[.int .i64 n2, .slice (some ⟨Kr, 0, none⟩) key2.length kr, .int .i64 now, .slice (some ⟨Mr, or, none⟩) P2.length cr] 36) := bC_z6.out.grow hb
  have D5_w7 : Hid (RG w7 K5 M5 c5 key5 P5) := D5_z6.out.below hb
  have DB_w7 : Hid (RdS w7 (some ⟨gb, 0, none⟩) by') := DB_z6.out.below hb
  have b5_w7 : Hid (Blk w7 w6.heap.size #[.int .i64 n5, .slice (some ⟨K5, 0, none⟩) key5.length k5, .int .i64 b5, .int .i64 t5, .slice (some ⟨M5, 0, none⟩) P5.length c5] 27) := b5_z6.out.grow hb
  clear B_z6 D1_z6 DX_z6 b1_z6 bA_z6 KX_z6 RX_z6 bX_z6 D2_z6 b2_z6 Ky_z6 Ry_z6 Kq_z6 Rq_z6 bY_z6 bB_z6 Kz_z6 Rz_z6 Kr_z6 Rr_z6 bZ_z6 bC_z6 D5_z6 DB_z6 b5_z6
  have D6_w7 : Hid (RG w7 K6 M6 c6 key6 P6) := ND6.out
  clear ND6
  have D7_w7 : Hid (RG w7 K7 M7 c7 key7 P7) := ND7.out
  clear ND7
  clear hb
  go_upto_region 10 with fail
  generalize hz : (w7.alloc (.cells #[.int .i64 n6, .slice (some ⟨K6, 0, none⟩) key6.length k6, .int .i64 b6, .int .i64 t6, .slice (some ⟨M6, 0, none⟩) P6.length c6] 27)).alloc (.cells #[.int .i64 n7, .slice (some ⟨K7, 0, none⟩) key7.length k7, .int .i64 b7, .int .i64 t7, .slice (some ⟨M7, 0, none⟩) P7.length c7] 27) = z7
  have hbz : Below w7.heap.size w7 z7 := by rw [← hz]; exact Go.Joins.below_alloc2 w7 _ _
  have b6_z7 : Hid (Blk z7 w7.heap.size #[.int .i64 n6, .slice (some ⟨K6, 0, none⟩) key6.length k6, .int .i64 b6, .int .i64 t6, .slice (some ⟨M6, 0, none⟩) P6.length c6] 27) := by rw [← hz]; exact (Blk.new _ _ _).alloc _
  have b7_z7 : Hid (Blk z7 (w7.heap.size + 1) #[.int .i64 n7, .slice (some ⟨K7, 0, none⟩) key7.length k7, .int .i64 b7, .int .i64 t7, .slice (some ⟨M7, 0, none⟩) P7.length c7] 27) := by rw [← hz]; exact Blk.new_at (by simp)
  clear hz
  have B_z7 : Hid (Below w.heap.size w z7) := grow_on B_w7.out hbz
  have D1_z7 : Hid (RG z7 K1 M1 c1 key1 P1) := D1_w7.out.below hbz
  have DX_z7 : Hid (DAl z7 ga x) := DX_w7.out.below hbz
  have b1_z7 : Hid (Blk z7 w1.heap.size #[.int .i64 n1, .slice (some ⟨K1, 0, none⟩) key1.length k1, .int .i64 b1, .int .i64 t1, .slice (some ⟨M1, 0, none⟩) P1.length c1] 27) := b1_w7.out.grow hbz
  have bA_z7 : Hid (Blk z7 (w1.heap.size + 1) #[.slice (some ⟨ga, 0, none⟩) x.l.length ca, .int .i64 x.s, .int .i64 x.e, .string x.n] 29) := bA_w7.out.grow hbz
  have KX_z7 : Hid (Reads z7 (some ⟨Kx, 0, none⟩) key1) := KX_w7.out.below hbz
  have RX_z7 : Hid (RdN z7 (some ⟨Mx, ox, none⟩) JL) := RX_w7.out.below hbz
  have bX_z7 : Hid (Blk z7 w2.heap.size #[.int .i64 n1, .slice (some ⟨Kx, 0, none⟩) key1.length kx, .int .i64 b1, .int .i64 t1, .slice (some ⟨Mx, ox, none⟩) JL.length cx] 27) := bX_w7.out.grow hbz
  have D2_z7 : Hid (RG z7 K2 M2 c2 key2 P2) := D2_w7.out.below hbz
  have b2_z7 : Hid (Blk z7 w3.heap.size #[.int .i64 n2, .slice (some ⟨K2, 0, none⟩) key2.length k2, .int .i64 b2, .int .i64 t2, .slice (some ⟨M2, 0, none⟩) P2.length c2] 27) := b2_w7.out.grow hbz
  have Ky_z7 : Hid (Reads z7 (some ⟨Ky, 0, none⟩) key2) := Ky_w7.out.below hbz
  have Ry_z7 : Hid (RdN z7 (some ⟨My, oy, none⟩) FL) := Ry_w7.out.below hbz
  have Kq_z7 : Hid (Reads z7 (some ⟨Kq, 0, none⟩) key2) := Kq_w7.out.below hbz
  have Rq_z7 : Hid (RdN z7 (some ⟨Mq, oq, none⟩) P2) := Rq_w7.out.below hbz
  have bY_z7 : Hid (Blk z7 w4.heap.size #[.int .i64 n2, .slice (some ⟨Ky, 0, none⟩) key2.length ky, .int .i64 b2, .int .i64 now, .slice (some ⟨My, oy, none⟩) FL.length cy] 27) := bY_w7.out.grow hbz
  have bB_z7 : Hid (Blk z7 (w4.heap.size + 1) #[.int .i64 n2, .slice (some ⟨Kq, 0, none⟩) key2.length kq, .int .i64 now, .slice (some ⟨Mq, oq, none⟩) P2.length cq] 36) := bB_w7.out.grow hbz
  have Kz_z7 : Hid (Reads z7 (some ⟨Kz, 0, none⟩) key2) := Kz_w7.out.below hbz
  have Rz_z7 : Hid (RdN z7 (some ⟨Mz, oz, none⟩) FL) := Rz_w7.out.below hbz
  have Kr_z7 : Hid (Reads z7 (some ⟨Kr, 0, none⟩) key2) := Kr_w7.out.below hbz
  have Rr_z7 : Hid (RdN z7 (some ⟨Mr, or, none⟩) P2) := Rr_w7.out.below hbz
  have bZ_z7 : Hid (Blk z7 w5.heap.size #[.int .i64 n2, .slice (some ⟨Kz, 0, none⟩) key2.length kz, .int .i64 b2, .int .i64 now, .slice (some ⟨Mz, oz, none⟩) FL.length cz] 27) := bZ_w7.out.grow hbz
  have bC_z7 : Hid (Blk z7 (w5.heap.size + 1) #[.int .i64 n2, .slice (some ⟨Kr, 0, none⟩) key2.length kr, .int .i64 now, .slice (some ⟨Mr, or, none⟩) P2.length cr] 36) := bC_w7.out.grow hbz
  have D5_z7 : Hid (RG z7 K5 M5 c5 key5 P5) := D5_w7.out.below hbz
  have DB_z7 : Hid (RdS z7 (some ⟨gb, 0, none⟩) by') := DB_w7.out.below hbz
  have b5_z7 : Hid (Blk z7 w6.heap.size #[.int .i64 n5, .slice (some ⟨K5, 0, none⟩) key5.length k5, .int .i64 b5, .int .i64 t5, .slice (some ⟨M5, 0, none⟩) P5.length c5] 27) := b5_w7.out.grow hbz
  have D6_z7 : Hid (RG z7 K6 M6 c6 key6 P6) := D6_w7.out.below hbz
  have D7_z7 : Hid (RG z7 K7 M7 c7 key7 P7) := D7_w7.out.below hbz
  clear B_w7 D1_w7 DX_w7 b1_w7 bA_w7 KX_w7 RX_w7 bX_w7 D2_w7 b2_w7 Ky_w7 Ry_w7 Kq_w7 Rq_w7 bY_w7 bB_w7 Kz_w7 Rz_w7 Kr_w7 Rr_w7 bZ_w7 bC_w7 D5_w7 DB_w7 b5_w7 D6_w7 D7_w7
  clear hbz
  go_wp2_with fail
  refine (drawSameBatch_any a len cap _ HL.out (bytes_up HB.out B_z7.out)).mono ?_
  rintro e w8 ⟨⟨n8, b8, K8, k8, M8, c8, key8, P8, n9, b9, K9, k9, M9, c9, key9, P9, rfl, hP, hQ⟩, hb⟩
  have ND8 : Hid (RG w8 K8 M8 c8 key8 P8) := hP
  have ND9 : Hid (RG w8 K9 M9 c9 key9 P9) := hQ
  have B_w8 : Hid (Below w.heap.size w w8) := grow_on B_z7.out hb
  have D1_w8 : Hid (RG w8 K1 M1 c1 key1 P1) := D1_z7.out.below hb
  have DX_w8 : Hid (DAl w8 ga x) := DX_z7.out.below hb
  have b1_w8 : Hid (Blk w8 w1.heap.size #[.int .i64 n1, .slice (some ⟨K1, 0, none⟩) key1.length k1, .int .i64 b1, .int .i64 t1, .slice (some ⟨M1, 0, none⟩) P1.length c1] 27) := b1_z7.out.grow hb
  have bA_w8 : Hid (Blk w8 (w1.heap.size + 1) #[.slice (some ⟨ga, 0, none⟩) x.l.length ca, .int .i64 x.s, .int .i64 x.e, .string x.n] 29) := bA_z7.out.grow hb
  have KX_w8 : Hid (Reads w8 (some ⟨Kx, 0, none⟩) key1) := KX_z7.out.below hb
  have RX_w8 : Hid (RdN w8 (some ⟨Mx, ox, none⟩) JL) := RX_z7.out.below hb
  have bX_w8 : Hid (Blk w8 w2.heap.size #[.int .i64 n1, .slice (some ⟨Kx, 0, none⟩) key1.length kx, .int .i64 b1, .int .i64 t1, .slice (some ⟨Mx, ox, none⟩) JL.length cx] 27) := bX_z7.out.grow hb
  have D2_w8 : Hid (RG w8 K2 M2 c2 key2 P2) := D2_z7.out.below hb
  have b2_w8 : Hid (Blk w8 w3.heap.size #[.int .i64 n2, .slice (some ⟨K2, 0, none⟩) key2.length k2, .int .i64 b2, .int .i64 t2, .slice (some ⟨M2, 0, none⟩) P2.length c2] 27) := b2_z7.out.grow hb
  have Ky_w8 : Hid (Reads w8 (some ⟨Ky, 0, none⟩) key2) := Ky_z7.out.below hb
  have Ry_w8 : Hid (RdN w8 (some ⟨My, oy, none⟩) FL) := Ry_z7.out.below hb
  have Kq_w8 : Hid (Reads w8 (some ⟨Kq, 0, none⟩) key2) := Kq_z7.out.below hb
  have Rq_w8 : Hid (RdN w8 (some ⟨Mq, oq, none⟩) P2) := Rq_z7.out.below hb
  have bY_w8 : Hid (Blk w8 w4.heap.size #[.int .i64 n2, .slice (some ⟨Ky, 0, none⟩) key2.length ky, .int .i64 b2, .int .i64 now, .slice (some ⟨My, oy, none⟩) FL.length cy] 27) := bY_z7.out.grow hb
  have bB_w8 : Hid (Blk w8 (w4.heap.size + 1) #[.int .i64 n2, .slice (some ⟨Kq, 0, none⟩) key2.length kq, .int .i64 now, .slice (some ⟨Mq, oq, none⟩) P2.length cq] 36) := bB_z7.out.grow hb
  have Kz_w8 : Hid (Reads w8 (some ⟨Kz, 0, none⟩) key2) := Kz_z7.out.below hb
  have Rz_w8 : Hid (RdN w8 (some ⟨Mz, oz, none⟩) FL) := Rz_z7.out.below hb
  have Kr_w8 : Hid (Reads w8 (some ⟨Kr, 0, none⟩) key2) := Kr_z7.out.below hb
  have Rr_w8 : Hid (RdN w8 (some ⟨Mr, or, none⟩) P2) := Rr_z7.out.below hb
  have bZ_w8 : Hid (Blk w8 w5.heap.size #[.int .i64 n2, .slice (some ⟨Kz, 0, none⟩) key2.length kz, .int .i64 b2, .int .i64 now, .slice (some ⟨Mz, oz, none⟩) FL.length cz] 27) := bZ_z7.out.grow hb
  have bC_w8 : Hid (Blk w8 (w5.heap.size + 1) #[.int .i64 n2, .slice (some ⟨Kr, 0, none⟩) key2.length kr, .int .i64 now, .slice (some ⟨Mr, or, none⟩) P2.length cr] 36) := bC_z7.out.grow hb
  have D5_w8 : Hid (RG w8 K5 M5 c5 key5 P5) := D5_z7.out.below hb
  have DB_w8 : Hid (RdS w8 (some ⟨gb, 0, none⟩) by') := DB_z7.out.below hb
  have b5_w8 : Hid (Blk w8 w6.heap.size #[.int .i64 n5, .slice (some ⟨K5, 0, none⟩) key5.length k5, .int .i64 b5, .int .i64 t5, .slice (some ⟨M5, 0, none⟩) P5.length c5] 27) := b5_z7.out.grow hb
  have D6_w8 : Hid (RG w8 K6 M6 c6 key6 P6) := D6_z7.out.below hb
  have D7_w8 : Hid (RG w8 K7 M7 c7 key7 P7) := D7_z7.out.below hb
  have b6_w8 : Hid (Blk w8 w7.heap.size #[.int .i64 n6, .slice (some ⟨K6, 0, none⟩) key6.length k6, .int .i64 b6, .int .i64 t6, .slice (some ⟨M6, 0, none⟩) P6.length c6] 27) := b6_z7.out.grow hb
  have b7_w8 : Hid (Blk w8 (w7.heap.size + 1) #[.int .i64 n7, .slice (some ⟨K7, 0, none⟩) key7.length k7, .int .i64 b7, .int .i64 t7, .slice (some ⟨M7, 0, none⟩) P7.length c7] 27) := b7_z7.out.grow hb
  clear B_z7 D1_z7 DX_z7 b1_z7 bA_z7 KX_z7 RX_z7 bX_z7 D2_z7 b2_z7 Ky_z7 Ry_z7 Kq_z7 Rq_z7 bY_z7 bB_z7 Kz_z7 Rz_z7 Kr_z7 Rr_z7 bZ_z7 bC_z7 D5_z7 DB_z7 b5_z7 D6_z7 D7_z7 b6_z7 b7_z7
  have D8_w8 : Hid (RG w8 K8 M8 c8 key8 P8) := ND8.out
  clear ND8
  have D9_w8 : Hid (RG w8 K9 M9 c9 key9 P9) := ND9.out
  clear ND9
  clear hb
  go_upto_region 11 with fail
  generalize hz : (w8.alloc (.cells #[.int .i64 n8, .slice (some ⟨K8, 0, none⟩) key8.length k8, .int .i64 b8, .slice (some ⟨M8, 0, none⟩) P8.length c8] 36)).alloc (.cells #[.int .i64 n9, .slice (some ⟨K9, 0, none⟩) key9.length k9, .int .i64 b9, .slice (some ⟨M9, 0, none⟩) P9.length c9] 36) = z8
  have hbz : Below w8.heap.size w8 z8 := by rw [← hz]; exact Go.Joins.below_alloc2 w8 _ _
  have b8_z8 : Hid (Blk z8 w8.heap.size #[.int .i64 n8, .slice (some ⟨K8, 0, none⟩) key8.length k8, .int .i64 b8, .slice (some ⟨M8, 0, none⟩) P8.length c8] 36) := by rw [← hz]; exact (Blk.new _ _ _).alloc _
  have b9_z8 : Hid (Blk z8 (w8.heap.size + 1) #[.int .i64 n9, .slice (some ⟨K9, 0, none⟩) key9.length k9, .int .i64 b9, .slice (some ⟨M9, 0, none⟩) P9.length c9] 36) := by rw [← hz]; exact Blk.new_at (by simp)
  clear hz
  have B_z8 : Hid (Below w.heap.size w z8) := grow_on B_w8.out hbz
  have D1_z8 : Hid (RG z8 K1 M1 c1 key1 P1) := D1_w8.out.below hbz
  have DX_z8 : Hid (DAl z8 ga x) := DX_w8.out.below hbz
  have b1_z8 : Hid (Blk z8 w1.heap.size #[.int .i64 n1, .slice (some ⟨K1, 0, none⟩) key1.length k1, .int .i64 b1, .int .i64 t1, .slice (some ⟨M1, 0, none⟩) P1.length c1] 27) := b1_w8.out.grow hbz
  have bA_z8 : Hid (Blk z8 (w1.heap.size + 1) #[.slice (some ⟨ga, 0, none⟩) x.l.length ca, .int .i64 x.s, .int .i64 x.e, .string x.n] 29) := bA_w8.out.grow hbz
  have KX_z8 : Hid (Reads z8 (some ⟨Kx, 0, none⟩) key1) := KX_w8.out.below hbz
  have RX_z8 : Hid (RdN z8 (some ⟨Mx, ox, none⟩) JL) := RX_w8.out.below hbz
  have bX_z8 : Hid (Blk z8 w2.heap.size #[.int .i64 n1, .slice (some ⟨Kx, 0, none⟩) key1.length kx, .int .i64 b1, .int .i64 t1, .slice (some ⟨Mx, ox, none⟩) JL.length cx] 27) := bX_w8.out.grow hbz
  have D2_z8 : Hid (RG z8 K2 M2 c2 key2 P2) := D2_w8.out.below hbz
  have b2_z8 : Hid (Blk z8 w3.heap.size #[.int .i64 n2, .slice (some ⟨K2, 0, none⟩) key2.length k2, .int .i64 b2, .int .i64 t2, .slice (some ⟨M2, 0, none⟩) P2.length c2] 27) := b2_w8.out.grow hbz
  have Ky_z8 : Hid (Reads z8 (some ⟨Ky, 0, none⟩) key2) := Ky_w8.out.below hbz
  have Ry_z8 : Hid (RdN z8 (some ⟨My, oy, none⟩) FL) := Ry_w8.out.below hbz
  have Kq_z8 : Hid (Reads z8 (some ⟨Kq, 0, none⟩) key2) := Kq_w8.out.below hbz
  have Rq_z8 : Hid (RdN z8 (some ⟨Mq, oq, none⟩) P2) := Rq_w8.out.below hbz
  have bY_z8 : Hid (Blk z8 w4.heap.size #[.int .i64 n2, .slice (some ⟨Ky, 0, none⟩) key2.length ky, .int .i64 b2, .int .i64 now, .slice (some ⟨My, oy, none⟩) FL.length cy] 27) := bY_w8.out.grow hbz
  have bB_z8 : Hid (Blk z8 (w4.heap.size + 1) #[.int .i64 n2, .slice (some ⟨Kq, 0, none⟩) key2.length kq, .int .i64 now, .slice (some ⟨Mq, oq, none⟩) P2.length cq] 36) := bB_w8.out.grow hbz
  have Kz_z8 : Hid (Reads z8 (some ⟨Kz, 0, none⟩) key2) := Kz_w8.out.below hbz
  have Rz_z8 : Hid (RdN z8 (some ⟨Mz, oz, none⟩) FL) := Rz_w8.out.below hbz
  have Kr_z8 : Hid (Reads z8 (some ⟨Kr, 0, none⟩) key2) := Kr_w8.out.below hbz
  have Rr_z8 : Hid (RdN z8 (some ⟨Mr, or, none⟩) P2) := Rr_w8.out.below hbz
  have bZ_z8 : Hid (Blk z8 w5.heap.size #[.int .i64 n2, .slice (some ⟨Kz, 0, none⟩) key2.length kz, .int .i64 b2, .int .i64 now, .slice (some ⟨Mz, oz, none⟩) FL.length cz] 27) := bZ_w8.out.grow hbz
  have bC_z8 : Hid (Blk z8 (w5.heap.size + 1) #[.int .i64 n2, .slice (some ⟨Kr, 0, none⟩) key2.length kr, .int .i64 now, .slice (some ⟨Mr, or, none⟩) P2.length cr] 36) := bC_w8.out.grow hbz
  have D5_z8 : Hid (RG z8 K5 M5 c5 key5 P5) := D5_w8.out.below hbz
  have DB_z8 : Hid (RdS z8 (some ⟨gb, 0, none⟩) by') := DB_w8.out.below hbz
  have b5_z8 : Hid (Blk z8 w6.heap.size #[.int .i64 n5, .slice (some ⟨K5, 0, none⟩) key5.length k5, .int .i64 b5, .int .i64 t5, .slice (some ⟨M5, 0, none⟩) P5.length c5] 27) := b5_w8.out.grow hbz
  have D6_z8 : Hid (RG z8 K6 M6 c6 key6 P6) := D6_w8.out.below hbz
  have D7_z8 : Hid (RG z8 K7 M7 c7 key7 P7) := D7_w8.out.below hbz
  have b6_z8 : Hid (Blk z8 w7.heap.size #[.int .i64 n6, .slice (some ⟨K6, 0, none⟩) key6.length k6, .int .i64 b6, .int .i64 t6, .slice (some ⟨M6, 0, none⟩) P6.length c6] 27) := b6_w8.out.grow hbz
  have b7_z8 : Hid (Blk z8 (w7.heap.size + 1) #[.int .i64 n7, .slice (some ⟨K7, 0, none⟩) key7.length k7, .int .i64 b7, .int .i64 t7, .slice (some ⟨M7, 0, none⟩) P7.length c7] 27) := b7_w8.out.grow hbz
  have D8_z8 : Hid (RG z8 K8 M8 c8 key8 P8) := D8_w8.out.below hbz
  have D9_z8 : Hid (RG z8 K9 M9 c9 key9 P9) := D9_w8.out.below hbz
  clear B_w8 D1_w8 DX_w8 b1_w8 bA_w8 KX_w8 RX_w8 bX_w8 D2_w8 b2_w8 Ky_w8 Ry_w8 Kq_w8 Rq_w8 bY_w8 bB_w8 Kz_w8 Rz_w8 Kr_w8 Rr_w8 bZ_w8 bC_w8 D5_w8 DB_w8 b5_w8 D6_w8 D7_w8 b6_w8 b7_w8 D8_w8 D9_w8
  clear hbz
  go_wp2_with fail
  refine (drawNextDue_any a len cap _ HL.out (bytes_up HB.out B_z8.out)).mono ?_
  rintro e w9 ⟨⟨n0, b0, t0, K0, k0, M0, c0, key0, P0, wait, every, rfl, hP, hn, hw, he⟩, hb⟩
  clear hn hw he
  have ND0 : Hid (RG w9 K0 M0 c0 key0 P0) := hP
  have B_w9 : Hid (Below w.heap.size w w9) := grow_on B_z8.out hb
  have D1_w9 : Hid (RG w9 K1 M1 c1 key1 P1) := D1_z8.out.below hb
  have DX_w9 : Hid (DAl w9 ga x) := DX_z8.out.below hb
  have b1_w9 : Hid (Blk w9 w1.heap.size #[.int .i64 n1, .slice (some ⟨K1, 0, none⟩) key1.length k1, .int .i64 b1, .int .i64 t1, .slice (some ⟨M1, 0, none⟩) P1.length c1] 27) := b1_z8.out.grow hb
  have bA_w9 : Hid (Blk w9 (w1.heap.size + 1) #[.slice (some ⟨ga, 0, none⟩) x.l.length ca, .int .i64 x.s, .int .i64 x.e, .string x.n] 29) := bA_z8.out.grow hb
  have KX_w9 : Hid (Reads w9 (some ⟨Kx, 0, none⟩) key1) := KX_z8.out.below hb
  have RX_w9 : Hid (RdN w9 (some ⟨Mx, ox, none⟩) JL) := RX_z8.out.below hb
  have bX_w9 : Hid (Blk w9 w2.heap.size #[.int .i64 n1, .slice (some ⟨Kx, 0, none⟩) key1.length kx, .int .i64 b1, .int .i64 t1, .slice (some ⟨Mx, ox, none⟩) JL.length cx] 27) := bX_z8.out.grow hb
  have D2_w9 : Hid (RG w9 K2 M2 c2 key2 P2) := D2_z8.out.below hb
  have b2_w9 : Hid (Blk w9 w3.heap.size #[.int .i64 n2, .slice (some ⟨K2, 0, none⟩) key2.length k2, .int .i64 b2, .int .i64 t2, .slice (some ⟨M2, 0, none⟩) P2.length c2] 27) := b2_z8.out.grow hb
  have Ky_w9 : Hid (Reads w9 (some ⟨Ky, 0, none⟩) key2) := Ky_z8.out.below hb
  have Ry_w9 : Hid (RdN w9 (some ⟨My, oy, none⟩) FL) := Ry_z8.out.below hb
  have Kq_w9 : Hid (Reads w9 (some ⟨Kq, 0, none⟩) key2) := Kq_z8.out.below hb
  have Rq_w9 : Hid (RdN w9 (some ⟨Mq, oq, none⟩) P2) := Rq_z8.out.below hb
  have bY_w9 : Hid (Blk w9 w4.heap.size #[.int .i64 n2, .slice (some ⟨Ky, 0, none⟩) key2.length ky, .int .i64 b2, .int .i64 now, .slice (some ⟨My, oy, none⟩) FL.length cy] 27) := bY_z8.out.grow hb
  have bB_w9 : Hid (Blk w9 (w4.heap.size + 1) #[.int .i64 n2, .slice (some ⟨Kq, 0, none⟩) key2.length kq, .int .i64 now, .slice (some ⟨Mq, oq, none⟩) P2.length cq] 36) := bB_z8.out.grow hb
  have Kz_w9 : Hid (Reads w9 (some ⟨Kz, 0, none⟩) key2) := Kz_z8.out.below hb
  have Rz_w9 : Hid (RdN w9 (some ⟨Mz, oz, none⟩) FL) := Rz_z8.out.below hb
  have Kr_w9 : Hid (Reads w9 (some ⟨Kr, 0, none⟩) key2) := Kr_z8.out.below hb
  have Rr_w9 : Hid (RdN w9 (some ⟨Mr, or, none⟩) P2) := Rr_z8.out.below hb
  have bZ_w9 : Hid (Blk w9 w5.heap.size #[.int .i64 n2, .slice (some ⟨Kz, 0, none⟩) key2.length kz, .int .i64 b2, .int .i64 now, .slice (some ⟨Mz, oz, none⟩) FL.length cz] 27) := bZ_z8.out.grow hb
  have bC_w9 : Hid (Blk w9 (w5.heap.size + 1) #[.int .i64 n2, .slice (some ⟨Kr, 0, none⟩) key2.length kr, .int .i64 now, .slice (some ⟨Mr, or, none⟩) P2.length cr] 36) := bC_z8.out.grow hb
  have D5_w9 : Hid (RG w9 K5 M5 c5 key5 P5) := D5_z8.out.below hb
  have DB_w9 : Hid (RdS w9 (some ⟨gb, 0, none⟩) by') := DB_z8.out.below hb
  have b5_w9 : Hid (Blk w9 w6.heap.size #[.int .i64 n5, .slice (some ⟨K5, 0, none⟩) key5.length k5, .int .i64 b5, .int .i64 t5, .slice (some ⟨M5, 0, none⟩) P5.length c5] 27) := b5_z8.out.grow hb
  have D6_w9 : Hid (RG w9 K6 M6 c6 key6 P6) := D6_z8.out.below hb
  have D7_w9 : Hid (RG w9 K7 M7 c7 key7 P7) := D7_z8.out.below hb
  have b6_w9 : Hid (Blk w9 w7.heap.size #[.int .i64 n6, .slice (some ⟨K6, 0, none⟩) key6.length k6, .int .i64 b6, .int .i64 t6, .slice (some ⟨M6, 0, none⟩) P6.length c6] 27) := b6_z8.out.grow hb
  have b7_w9 : Hid (Blk w9 (w7.heap.size + 1) #[.int .i64 n7, .slice (some ⟨K7, 0, none⟩) key7.length k7, .int .i64 b7, .int .i64 t7, .slice (some ⟨M7, 0, none⟩) P7.length c7] 27) := b7_z8.out.grow hb
  have D8_w9 : Hid (RG w9 K8 M8 c8 key8 P8) := D8_z8.out.below hb
  have D9_w9 : Hid (RG w9 K9 M9 c9 key9 P9) := D9_z8.out.below hb
  have b8_w9 : Hid (Blk w9 w8.heap.size #[.int .i64 n8, .slice (some ⟨K8, 0, none⟩) key8.length k8, .int .i64 b8, .slice (some ⟨M8, 0, none⟩) P8.length c8] 36) := b8_z8.out.grow hb
  have b9_w9 : Hid (Blk w9 (w8.heap.size + 1) #[.int .i64 n9, .slice (some ⟨K9, 0, none⟩) key9.length k9, .int .i64 b9, .slice (some ⟨M9, 0, none⟩) P9.length c9] 36) := b9_z8.out.grow hb
  clear B_z8 D1_z8 DX_z8 b1_z8 bA_z8 KX_z8 RX_z8 bX_z8 D2_z8 b2_z8 Ky_z8 Ry_z8 Kq_z8 Rq_z8 bY_z8 bB_z8 Kz_z8 Rz_z8 Kr_z8 Rr_z8 bZ_z8 bC_z8 D5_z8 DB_z8 b5_z8 D6_z8 D7_z8 b6_z8 b7_z8 D8_z8 D9_z8 b8_z8 b9_z8
  have D0_w9 : Hid (RG w9 K0 M0 c0 key0 P0) := ND0.out
  clear ND0
  clear hb
  go_upto_region 12 with fail
  generalize hz : w9.alloc (.cells #[.int .i64 n0, .slice (some ⟨K0, 0, none⟩) key0.length k0, .int .i64 b0, .int .i64 t0, .slice (some ⟨M0, 0, none⟩) P0.length c0] 27) = z9
  have hbz : Below w9.heap.size w9 z9 := by rw [← hz]; exact Go.Joins.below_alloc1 w9 _
  have b0_z9 : Hid (Blk z9 w9.heap.size #[.int .i64 n0, .slice (some ⟨K0, 0, none⟩) key0.length k0, .int .i64 b0, .int .i64 t0, .slice (some ⟨M0, 0, none⟩) P0.length c0] 27) := by rw [← hz]; exact (Blk.new _ _ _)
  clear hz
  have B_z9 : Hid (Below w.heap.size w z9) := grow_on B_w9.out hbz
  have D1_z9 : Hid (RG z9 K1 M1 c1 key1 P1) := D1_w9.out.below hbz
  have DX_z9 : Hid (DAl z9 ga x) := DX_w9.out.below hbz
  have b1_z9 : Hid (Blk z9 w1.heap.size #[.int .i64 n1, .slice (some ⟨K1, 0, none⟩) key1.length k1, .int .i64 b1, .int .i64 t1, .slice (some ⟨M1, 0, none⟩) P1.length c1] 27) := b1_w9.out.grow hbz
  have bA_z9 : Hid (Blk z9 (w1.heap.size + 1) #[.slice (some ⟨ga, 0, none⟩) x.l.length ca, .int .i64 x.s, .int .i64 x.e, .string x.n] 29) := bA_w9.out.grow hbz
  have KX_z9 : Hid (Reads z9 (some ⟨Kx, 0, none⟩) key1) := KX_w9.out.below hbz
  have RX_z9 : Hid (RdN z9 (some ⟨Mx, ox, none⟩) JL) := RX_w9.out.below hbz
  have bX_z9 : Hid (Blk z9 w2.heap.size #[.int .i64 n1, .slice (some ⟨Kx, 0, none⟩) key1.length kx, .int .i64 b1, .int .i64 t1, .slice (some ⟨Mx, ox, none⟩) JL.length cx] 27) := bX_w9.out.grow hbz
  have D2_z9 : Hid (RG z9 K2 M2 c2 key2 P2) := D2_w9.out.below hbz
  have b2_z9 : Hid (Blk z9 w3.heap.size #[.int .i64 n2, .slice (some ⟨K2, 0, none⟩) key2.length k2, .int .i64 b2, .int .i64 t2, .slice (some ⟨M2, 0, none⟩) P2.length c2] 27) := b2_w9.out.grow hbz
  have Ky_z9 : Hid (Reads z9 (some ⟨Ky, 0, none⟩) key2) := Ky_w9.out.below hbz
  have Ry_z9 : Hid (RdN z9 (some ⟨My, oy, none⟩) FL) := Ry_w9.out.below hbz
  have Kq_z9 : Hid (Reads z9 (some ⟨Kq, 0, none⟩) key2) := Kq_w9.out.below hbz
  have Rq_z9 : Hid (RdN z9 (some ⟨Mq, oq, none⟩) P2) := Rq_w9.out.below hbz
  have bY_z9 : Hid (Blk z9 w4.heap.size #[.int .i64 n2, .slice (some ⟨Ky, 0, none⟩) key2.length ky, .int .i64 b2, .int .i64 now, .slice (some ⟨My, oy, none⟩) FL.length cy] 27) := bY_w9.out.grow hbz
  have bB_z9 : Hid (Blk z9 (w4.heap.size + 1) #[.int .i64 n2, .slice (some ⟨Kq, 0, none⟩) key2.length kq, .int .i64 now, .slice (some ⟨Mq, oq, none⟩) P2.length cq] 36) := bB_w9.out.grow hbz
  have Kz_z9 : Hid (Reads z9 (some ⟨Kz, 0, none⟩) key2) := Kz_w9.out.below hbz
  have Rz_z9 : Hid (RdN z9 (some ⟨Mz, oz, none⟩) FL) := Rz_w9.out.below hbz
  have Kr_z9 : Hid (Reads z9 (some ⟨Kr, 0, none⟩) key2) := Kr_w9.out.below hbz
  have Rr_z9 : Hid (RdN z9 (some ⟨Mr, or, none⟩) P2) := Rr_w9.out.below hbz
  have bZ_z9 : Hid (Blk z9 w5.heap.size #[.int .i64 n2, .slice (some ⟨Kz, 0, none⟩) key2.length kz, .int .i64 b2, .int .i64 now, .slice (some ⟨Mz, oz, none⟩) FL.length cz] 27) := bZ_w9.out.grow hbz
  have bC_z9 : Hid (Blk z9 (w5.heap.size + 1) #[.int .i64 n2, .slice (some ⟨Kr, 0, none⟩) key2.length kr, .int .i64 now, .slice (some ⟨Mr, or, none⟩) P2.length cr] 36) := bC_w9.out.grow hbz
  have D5_z9 : Hid (RG z9 K5 M5 c5 key5 P5) := D5_w9.out.below hbz
  have DB_z9 : Hid (RdS z9 (some ⟨gb, 0, none⟩) by') := DB_w9.out.below hbz
  have b5_z9 : Hid (Blk z9 w6.heap.size #[.int .i64 n5, .slice (some ⟨K5, 0, none⟩) key5.length k5, .int .i64 b5, .int .i64 t5, .slice (some ⟨M5, 0, none⟩) P5.length c5] 27) := b5_w9.out.grow hbz
  have D6_z9 : Hid (RG z9 K6 M6 c6 key6 P6) := D6_w9.out.below hbz
  have D7_z9 : Hid (RG z9 K7 M7 c7 key7 P7) := D7_w9.out.below hbz
  have b6_z9 : Hid (Blk z9 w7.heap.size #[.int .i64 n6, .slice (some ⟨K6, 0, none⟩) key6.length k6, .int .i64 b6, .int .i64 t6, .slice (some ⟨M6, 0, none⟩) P6.length c6] 27) := b6_w9.out.grow hbz
  have b7_z9 : Hid (Blk z9 (w7.heap.size + 1) #[.int .i64 n7, .slice (some ⟨K7, 0, none⟩) key7.length k7, .int .i64 b7, .int .i64 t7, .slice (some ⟨M7, 0, none⟩) P7.length c7] 27) := b7_w9.out.grow hbz
  have D8_z9 : Hid (RG z9 K8 M8 c8 key8 P8) := D8_w9.out.below hbz
  have D9_z9 : Hid (RG z9 K9 M9 c9 key9 P9) := D9_w9.out.below hbz
  have b8_z9 : Hid (Blk z9 w8.heap.size #[.int .i64 n8, .slice (some ⟨K8, 0, none⟩) key8.length k8, .int .i64 b8, .slice (some ⟨M8, 0, none⟩) P8.length c8] 36) := b8_w9.out.grow hbz
  have b9_z9 : Hid (Blk z9 (w8.heap.size + 1) #[.int .i64 n9, .slice (some ⟨K9, 0, none⟩) key9.length k9, .int .i64 b9, .slice (some ⟨M9, 0, none⟩) P9.length c9] 36) := b9_w9.out.grow hbz
  have D0_z9 : Hid (RG z9 K0 M0 c0 key0 P0) := D0_w9.out.below hbz
  clear B_w9 D1_w9 DX_w9 b1_w9 bA_w9 KX_w9 RX_w9 bX_w9 D2_w9 b2_w9 Ky_w9 Ry_w9 Kq_w9 Rq_w9 bY_w9 bB_w9 Kz_w9 Rz_w9 Kr_w9 Rr_w9 bZ_w9 bC_w9 D5_w9 DB_w9 b5_w9 D6_w9 D7_w9 b6_w9 b7_w9 D8_w9 D9_w9 b8_w9 b9_w9 D0_w9
  clear hbz
  have C3 : Hid (∀ (u : World), Below z9.heap.size z9 u → Calls Try.prog 20 #[.agg #[.int .i64 n1, .slice (some ⟨K1, 0, none⟩) key1.length k1, .int .i64 b1, .int .i64 t1, .slice (some ⟨M1, 0, none⟩) P1.length c1], .agg #[.slice (some ⟨ga, 0, none⟩) x.l.length ca, .int .i64 x.s, .int .i64 x.e, .string x.n]] u fun e w' => (∃ Ke kd M o c, e = .returned (.agg #[.int .i64 n1, .slice (some ⟨Ke, 0, none⟩) key1.length kd, .int .i64 b1, .int .i64 t1, .slice (some ⟨M, o, none⟩) JL.length c]) ∧ Reads w' (some ⟨Ke, 0, none⟩) key1 ∧ RdN w' (some ⟨M, o, none⟩) JL) ∧ Below u.heap.size u w') := fun u hu => specJoinZ (D1_z9.out.below hu) (DX_z9.out.below hu) HJ.out
  have C4 : Hid (∀ (u : World) (Ke kd M o c : Nat), Below z9.heap.size z9 u → Reads u (some ⟨Ke, 0, none⟩) key1 → RdN u (some ⟨M, o, none⟩) JL → Calls Try.prog 19 #[.agg #[.int .i64 n1, .slice (some ⟨Kx, 0, none⟩) key1.length kx, .int .i64 b1, .int .i64 t1, .slice (some ⟨Mx, ox, none⟩) JL.length cx], .agg #[.int .i64 n1, .slice (some ⟨Ke, 0, none⟩) key1.length kd, .int .i64 b1, .int .i64 t1, .slice (some ⟨M, o, none⟩) JL.length c]] u fun e w' => e = .returned (.bool true) ∧ Below u.heap.size u w') := fun u Ke kd M o c hu h1 h2 => sameGZ (KX_z9.out.below hu) h1 L1.out.2 (RX_z9.out.below hu) h2 (len10 FJ.out.2.1) (finesP FJ.out.1)
  have C9 : Hid (∀ (u : World), Below z9.heap.size z9 u → Calls Try.prog 19 #[.agg #[.int .i64 n2, .slice (some ⟨Ky, 0, none⟩) key2.length ky, .int .i64 b2, .int .i64 now, .slice (some ⟨My, oy, none⟩) FL.length cy], .agg #[.int .i64 n2, .slice (some ⟨Kz, 0, none⟩) key2.length kz, .int .i64 b2, .int .i64 now, .slice (some ⟨Mz, oz, none⟩) FL.length cz]] u fun e w' => e = .returned (.bool true) ∧ Below u.heap.size u w') := fun u hu => sameGZ (Ky_z9.out.below hu) (Kz_z9.out.below hu) F2.out.2.2 (Ry_z9.out.below hu) (Rz_z9.out.below hu) (by have := FF.out.2.1; omega) (finesP FF.out.1)
  have C15 : Hid (∀ (u : World), Below z9.heap.size z9 u → Calls Try.prog 21 #[.agg #[.int .i64 n2, .slice (some ⟨Kq, 0, none⟩) key2.length kq, .int .i64 now, .slice (some ⟨Mq, oq, none⟩) P2.length cq], .agg #[.int .i64 n2, .slice (some ⟨Kr, 0, none⟩) key2.length kr, .int .i64 now, .slice (some ⟨Mr, or, none⟩) P2.length cr]] u fun e w' => e = .returned (.bool true) ∧ Below u.heap.size u w') := fun u hu => sameBZ (Kq_z9.out.below hu) (Kr_z9.out.below hu) F2.out.2.2 (Rq_z9.out.below hu) (Rr_z9.out.below hu) (by have := F2.out.2.1; omega) (finesP F2.out.1)
  have C21 : Hid (∀ (u : World), Below z9.heap.size z9 u → Calls Try.prog 22 #[.agg #[.int .i64 n5, .slice (some ⟨K5, 0, none⟩) key5.length k5, .int .i64 b5, .int .i64 t5, .slice (some ⟨M5, 0, none⟩) P5.length c5], .slice (some ⟨gb, 0, none⟩) by'.length gc] u fun e w' => e = .returned (.bool (groupB n5 key5 b5 t5 P5 by')) ∧ Below u.heap.size u w') := fun u hu => GrpI.implGroup_any n5 b5 t5 _ k5 key5 _ c5 P5 _ gc by' u (D5_z9.out.kr.below hu) (RG.kl D5_z9.out).2.1 D5_z9.out.kf.1 (D5_z9.out.pr.rd.below hu) (RG.kl D5_z9.out).2.2 D5_z9.out.fine.fits D5_z9.out.fine.lens (DB_z9.out.below hu) HB2.out
  have C24 : Hid (∀ (u : World), Below z9.heap.size z9 u → Calls Try.prog 23 #[.agg #[.int .i64 n5, .slice (some ⟨K5, 0, none⟩) key5.length k5, .int .i64 b5, .int .i64 t5, .slice (some ⟨M5, 0, none⟩) P5.length c5], .slice (some ⟨gb, 0, none⟩) by'.length gc] u fun e w' => e = .returned (.bool (groupB n5 key5 b5 t5 P5 by')) ∧ Below u.heap.size u w') := fun u hu => specGroup_any n5 b5 t5 _ k5 key5 _ c5 P5 _ gc by' u (D5_z9.out.kr.below hu) (RG.kl D5_z9.out).2.1 D5_z9.out.kf.1 (D5_z9.out.pr.rd.below hu) (RG.kl D5_z9.out).2.2 D5_z9.out.fine.fits D5_z9.out.fine.lens (DB_z9.out.below hu) HB2.out
  have C30 : Hid (∀ (u : World), Below z9.heap.size z9 u → Calls Try.prog 19 #[.agg #[.int .i64 n6, .slice (some ⟨K6, 0, none⟩) key6.length k6, .int .i64 b6, .int .i64 t6, .slice (some ⟨M6, 0, none⟩) P6.length c6], .agg #[.int .i64 n7, .slice (some ⟨K7, 0, none⟩) key7.length k7, .int .i64 b7, .int .i64 t7, .slice (some ⟨M7, 0, none⟩) P7.length c7]] u fun e w' => e = .returned (.bool (sameG n6 b6 t6 key6 P6 n7 b7 t7 key7 P7)) ∧ Below u.heap.size u w') := fun u hu => GrpI.implSameG_any n6 b6 t6 n7 b7 t7 _ _ k6 k7 key6 key7 _ _ c6 c7 P6 P7 u (D6_z9.out.kr.below hu) (D7_z9.out.kr.below hu) (RG.kl D6_z9.out).2.1 (RG.kl D7_z9.out).2.1 (D6_z9.out.pr.rd.below hu) (D7_z9.out.pr.rd.below hu) (RG.kl D6_z9.out).2.2 (RG.kl D7_z9.out).2.2 (finesP D6_z9.out.fine) (finesP D7_z9.out.fine)
  have C33 : Hid (∀ (u : World), Below z9.heap.size z9 u → Calls Try.prog 24 #[.agg #[.int .i64 n6, .slice (some ⟨K6, 0, none⟩) key6.length k6, .int .i64 b6, .int .i64 t6, .slice (some ⟨M6, 0, none⟩) P6.length c6], .agg #[.int .i64 n7, .slice (some ⟨K7, 0, none⟩) key7.length k7, .int .i64 b7, .int .i64 t7, .slice (some ⟨M7, 0, none⟩) P7.length c7]] u fun e w' => e = .returned (.bool (sameG n6 b6 t6 key6 P6 n7 b7 t7 key7 P7)) ∧ Below u.heap.size u w') := fun u hu => specSameG_any n6 b6 t6 n7 b7 t7 _ _ k6 k7 key6 key7 _ _ c6 c7 P6 P7 u (D6_z9.out.kr.below hu) (D7_z9.out.kr.below hu) (RG.kl D6_z9.out).2.1 (RG.kl D7_z9.out).2.1 (D6_z9.out.pr.rd.below hu) (D7_z9.out.pr.rd.below hu) (RG.kl D6_z9.out).2.2 (RG.kl D7_z9.out).2.2 (finesP D6_z9.out.fine) (finesP D7_z9.out.fine)
  have C39 : Hid (∀ (u : World), Below z9.heap.size z9 u → Calls Try.prog 21 #[.agg #[.int .i64 n8, .slice (some ⟨K8, 0, none⟩) key8.length k8, .int .i64 b8, .slice (some ⟨M8, 0, none⟩) P8.length c8], .agg #[.int .i64 n9, .slice (some ⟨K9, 0, none⟩) key9.length k9, .int .i64 b9, .slice (some ⟨M9, 0, none⟩) P9.length c9]] u fun e w' => e = .returned (.bool (GrpO.sameB n8 b8 key8 P8 n9 b9 key9 P9)) ∧ Below u.heap.size u w') := fun u hu => GrpI.implSameB_any n8 b8 n9 b9 _ _ k8 k9 key8 key9 _ _ c8 c9 P8 P9 u (D8_z9.out.kr.below hu) (D9_z9.out.kr.below hu) (RG.kl D8_z9.out).2.1 (RG.kl D9_z9.out).2.1 (D8_z9.out.pr.rd.below hu) (D9_z9.out.pr.rd.below hu) (RG.kl D8_z9.out).2.2 (RG.kl D9_z9.out).2.2 (finesP D8_z9.out.fine) (finesP D9_z9.out.fine)
  have C42 : Hid (∀ (u : World), Below z9.heap.size z9 u → Calls Try.prog 25 #[.agg #[.int .i64 n8, .slice (some ⟨K8, 0, none⟩) key8.length k8, .int .i64 b8, .slice (some ⟨M8, 0, none⟩) P8.length c8], .agg #[.int .i64 n9, .slice (some ⟨K9, 0, none⟩) key9.length k9, .int .i64 b9, .slice (some ⟨M9, 0, none⟩) P9.length c9]] u fun e w' => e = .returned (.bool (GrpO.sameB n8 b8 key8 P8 n9 b9 key9 P9)) ∧ Below u.heap.size u w') := fun u hu => specSameB_any n8 b8 n9 b9 _ _ k8 k9 key8 key9 _ _ c8 c9 P8 P9 u (D8_z9.out.kr.below hu) (D9_z9.out.kr.below hu) (RG.kl D8_z9.out).2.1 (RG.kl D9_z9.out).2.1 (D8_z9.out.pr.rd.below hu) (D9_z9.out.pr.rd.below hu) (RG.kl D8_z9.out).2.2 (RG.kl D9_z9.out).2.2 (finesP D8_z9.out.fine) (finesP D9_z9.out.fine)
  have C49 : Hid (∀ (u : World), Below z9.heap.size z9 u → Calls Try.prog 26 #[.agg #[.int .i64 n0, .slice (some ⟨K0, 0, none⟩) key0.length k0, .int .i64 b0, .int .i64 t0, .slice (some ⟨M0, 0, none⟩) P0.length c0], .int .i64 wait, .int .i64 every] u fun e w' => e = .returned (.int .i64 (nextB b0 t0 wait every)) ∧ Below u.heap.size u w') := fun u hu => GrpN.implNext_any n0 b0 t0 wait every _ _ u ⟨_, _, _, rfl⟩ ⟨_, _, _, rfl⟩
  have C53 : Hid (∀ (u : World), Below z9.heap.size z9 u → Calls Try.prog 27 #[.agg #[.int .i64 n0, .slice (some ⟨K0, 0, none⟩) key0.length k0, .int .i64 b0, .int .i64 t0, .slice (some ⟨M0, 0, none⟩) P0.length c0], .int .i64 wait, .int .i64 every] u fun e w' => e = .returned (.int .i64 (nextB b0 t0 wait every)) ∧ Below u.heap.size u w') := fun u hu => specNext_any n0 b0 t0 wait every _ _ u ⟨_, _, _, rfl⟩ ⟨_, _, _, rfl⟩
  have eq1 : (groupB n5 key5 b5 t5 P5 by' != groupB n5 key5 b5 t5 P5 by') = false := by simp
  have eq2 : (sameG n6 b6 t6 key6 P6 n7 b7 t7 key7 P7 != sameG n6 b6 t6 key6 P6 n7 b7 t7 key7 P7) = false := by simp
  have eq3 : (GrpO.sameB n8 b8 key8 P8 n9 b9 key9 P9 != GrpO.sameB n8 b8 key8 P8 n9 b9 key9 P9) = false := by simp
  have eq4 : (nextB b0 t0 wait every != nextB b0 t0 wait every) = false := by simp
  have HS : Hid (∀ w', Below z9.heap.size z9 w' → Below z9.heap.size z9 w' ∧ w'.cell? ⟨w1.heap.size, 0, none⟩ = some (.int .i64 n1) ∧ w'.cell? ⟨w1.heap.size, 1, none⟩ = some (.slice (some ⟨K1, 0, none⟩) key1.length k1) ∧ w'.cell? ⟨w1.heap.size, 2, none⟩ = some (.int .i64 b1) ∧ w'.cell? ⟨w1.heap.size, 3, none⟩ = some (.int .i64 t1) ∧ w'.cell? ⟨w1.heap.size, 4, none⟩ = some (.slice (some ⟨M1, 0, none⟩) P1.length c1) ∧ w'.cell? ⟨(w1.heap.size + 1), 0, none⟩ = some (.slice (some ⟨ga, 0, none⟩) x.l.length ca) ∧ w'.cell? ⟨(w1.heap.size + 1), 1, none⟩ = some (.int .i64 x.s) ∧ w'.cell? ⟨(w1.heap.size + 1), 2, none⟩ = some (.int .i64 x.e) ∧ w'.cell? ⟨(w1.heap.size + 1), 3, none⟩ = some (.string x.n) ∧ w'.cell? ⟨w2.heap.size, 0, none⟩ = some (.int .i64 n1) ∧ w'.cell? ⟨w2.heap.size, 1, none⟩ = some (.slice (some ⟨Kx, 0, none⟩) key1.length kx) ∧ w'.cell? ⟨w2.heap.size, 2, none⟩ = some (.int .i64 b1) ∧ w'.cell? ⟨w2.heap.size, 3, none⟩ = some (.int .i64 t1) ∧ w'.cell? ⟨w2.heap.size, 4, none⟩ = some (.slice (some ⟨Mx, ox, none⟩) JL.length cx) ∧ w'.cell? ⟨w4.heap.size, 0, none⟩ = some (.int .i64 n2) ∧ w'.cell? ⟨w4.heap.size, 1, none⟩ = some (.slice (some ⟨Ky, 0, none⟩) key2.length ky) ∧ w'.cell? ⟨w4.heap.size, 2, none⟩ = some (.int .i64 b2) ∧ w'.cell? ⟨w4.heap.size, 3, none⟩ = some (.int .i64 now) ∧ w'.cell? ⟨w4.heap.size, 4, none⟩ = some (.slice (some ⟨My, oy, none⟩) FL.length cy) ∧ w'.cell? ⟨w5.heap.size, 0, none⟩ = some (.int .i64 n2) ∧ w'.cell? ⟨w5.heap.size, 1, none⟩ = some (.slice (some ⟨Kz, 0, none⟩) key2.length kz) ∧ w'.cell? ⟨w5.heap.size, 2, none⟩ = some (.int .i64 b2) ∧ w'.cell? ⟨w5.heap.size, 3, none⟩ = some (.int .i64 now) ∧ w'.cell? ⟨w5.heap.size, 4, none⟩ = some (.slice (some ⟨Mz, oz, none⟩) FL.length cz) ∧ w'.cell? ⟨(w4.heap.size + 1), 0, none⟩ = some (.int .i64 n2) ∧ w'.cell? ⟨(w4.heap.size + 1), 1, none⟩ = some (.slice (some ⟨Kq, 0, none⟩) key2.length kq) ∧ w'.cell? ⟨(w4.heap.size + 1), 2, none⟩ = some (.int .i64 now) ∧ w'.cell? ⟨(w4.heap.size + 1), 3, none⟩ = some (.slice (some ⟨Mq, oq, none⟩) P2.length cq) ∧ w'.cell? ⟨(w5.heap.size + 1), 0, none⟩ = some (.int .i64 n2) ∧ w'.cell? ⟨(w5.heap.size + 1), 1, none⟩ = some (.slice (some ⟨Kr, 0, none⟩) key2.length kr) ∧ w'.cell? ⟨(w5.heap.size + 1), 2, none⟩ = some (.int .i64 now) ∧ w'.cell? ⟨(w5.heap.size + 1), 3, none⟩ = some (.slice (some ⟨Mr, or, none⟩) P2.length cr) ∧ w'.cell? ⟨w6.heap.size, 0, none⟩ = some (.int .i64 n5) ∧ w'.cell? ⟨w6.heap.size, 1, none⟩ = some (.slice (some ⟨K5, 0, none⟩) key5.length k5) ∧ w'.cell? ⟨w6.heap.size, 2, none⟩ = some (.int .i64 b5) ∧ w'.cell? ⟨w6.heap.size, 3, none⟩ = some (.int .i64 t5) ∧ w'.cell? ⟨w6.heap.size, 4, none⟩ = some (.slice (some ⟨M5, 0, none⟩) P5.length c5) ∧ w'.cell? ⟨w7.heap.size, 0, none⟩ = some (.int .i64 n6) ∧ w'.cell? ⟨w7.heap.size, 1, none⟩ = some (.slice (some ⟨K6, 0, none⟩) key6.length k6) ∧ w'.cell? ⟨w7.heap.size, 2, none⟩ = some (.int .i64 b6) ∧ w'.cell? ⟨w7.heap.size, 3, none⟩ = some (.int .i64 t6) ∧ w'.cell? ⟨w7.heap.size, 4, none⟩ = some (.slice (some ⟨M6, 0, none⟩) P6.length c6) ∧ w'.cell? ⟨(w7.heap.size + 1), 0, none⟩ = some (.int .i64 n7) ∧ w'.cell? ⟨(w7.heap.size + 1), 1, none⟩ = some (.slice (some ⟨K7, 0, none⟩) key7.length k7) ∧ w'.cell? ⟨(w7.heap.size + 1), 2, none⟩ = some (.int .i64 b7) ∧ w'.cell? ⟨(w7.heap.size + 1), 3, none⟩ = some (.int .i64 t7) ∧ w'.cell? ⟨(w7.heap.size + 1), 4, none⟩ = some (.slice (some ⟨M7, 0, none⟩) P7.length c7) ∧ w'.cell? ⟨w8.heap.size, 0, none⟩ = some (.int .i64 n8) ∧ w'.cell? ⟨w8.heap.size, 1, none⟩ = some (.slice (some ⟨K8, 0, none⟩) key8.length k8) ∧ w'.cell? ⟨w8.heap.size, 2, none⟩ = some (.int .i64 b8) ∧ w'.cell? ⟨w8.heap.size, 3, none⟩ = some (.slice (some ⟨M8, 0, none⟩) P8.length c8) ∧ w'.cell? ⟨(w8.heap.size + 1), 0, none⟩ = some (.int .i64 n9) ∧ w'.cell? ⟨(w8.heap.size + 1), 1, none⟩ = some (.slice (some ⟨K9, 0, none⟩) key9.length k9) ∧ w'.cell? ⟨(w8.heap.size + 1), 2, none⟩ = some (.int .i64 b9) ∧ w'.cell? ⟨(w8.heap.size + 1), 3, none⟩ = some (.slice (some ⟨M9, 0, none⟩) P9.length c9) ∧ w'.cell? ⟨w9.heap.size, 0, none⟩ = some (.int .i64 n0) ∧ w'.cell? ⟨w9.heap.size, 1, none⟩ = some (.slice (some ⟨K0, 0, none⟩) key0.length k0) ∧ w'.cell? ⟨w9.heap.size, 2, none⟩ = some (.int .i64 b0) ∧ w'.cell? ⟨w9.heap.size, 3, none⟩ = some (.int .i64 t0) ∧ w'.cell? ⟨w9.heap.size, 4, none⟩ = some (.slice (some ⟨M0, 0, none⟩) P0.length c0)) := fun w' h => ⟨h, (b1_z9.out.grow h).cell 0, (b1_z9.out.grow h).cell 1, (b1_z9.out.grow h).cell 2, (b1_z9.out.grow h).cell 3, (b1_z9.out.grow h).cell 4, (bA_z9.out.grow h).cell 0, (bA_z9.out.grow h).cell 1, (bA_z9.out.grow h).cell 2, (bA_z9.out.grow h).cell 3, (bX_z9.out.grow h).cell 0, (bX_z9.out.grow h).cell 1, (bX_z9.out.grow h).cell 2, (bX_z9.out.grow h).cell 3, (bX_z9.out.grow h).cell 4, (bY_z9.out.grow h).cell 0, (bY_z9.out.grow h).cell 1, (bY_z9.out.grow h).cell 2, (bY_z9.out.grow h).cell 3, (bY_z9.out.grow h).cell 4, (bZ_z9.out.grow h).cell 0, (bZ_z9.out.grow h).cell 1, (bZ_z9.out.grow h).cell 2, (bZ_z9.out.grow h).cell 3, (bZ_z9.out.grow h).cell 4, (bB_z9.out.grow h).cell 0, (bB_z9.out.grow h).cell 1, (bB_z9.out.grow h).cell 2, (bB_z9.out.grow h).cell 3, (bC_z9.out.grow h).cell 0, (bC_z9.out.grow h).cell 1, (bC_z9.out.grow h).cell 2, (bC_z9.out.grow h).cell 3, (b5_z9.out.grow h).cell 0, (b5_z9.out.grow h).cell 1, (b5_z9.out.grow h).cell 2, (b5_z9.out.grow h).cell 3, (b5_z9.out.grow h).cell 4, (b6_z9.out.grow h).cell 0, (b6_z9.out.grow h).cell 1, (b6_z9.out.grow h).cell 2, (b6_z9.out.grow h).cell 3, (b6_z9.out.grow h).cell 4, (b7_z9.out.grow h).cell 0, (b7_z9.out.grow h).cell 1, (b7_z9.out.grow h).cell 2, (b7_z9.out.grow h).cell 3, (b7_z9.out.grow h).cell 4, (b8_z9.out.grow h).cell 0, (b8_z9.out.grow h).cell 1, (b8_z9.out.grow h).cell 2, (b8_z9.out.grow h).cell 3, (b9_z9.out.grow h).cell 0, (b9_z9.out.grow h).cell 1, (b9_z9.out.grow h).cell 2, (b9_z9.out.grow h).cell 3, (b0_z9.out.grow h).cell 0, (b0_z9.out.grow h).cell 1, (b0_z9.out.grow h).cell 2, (b0_z9.out.grow h).cell 3, (b0_z9.out.grow h).cell 4⟩
  go_upto_region 12 with fail
  refine wp_region_held_drew (S := fun w' => Below z9.heap.size z9 w' ∧ w'.cell? ⟨w1.heap.size, 0, none⟩ = some (.int .i64 n1) ∧ w'.cell? ⟨w1.heap.size, 1, none⟩ = some (.slice (some ⟨K1, 0, none⟩) key1.length k1) ∧ w'.cell? ⟨w1.heap.size, 2, none⟩ = some (.int .i64 b1) ∧ w'.cell? ⟨w1.heap.size, 3, none⟩ = some (.int .i64 t1) ∧ w'.cell? ⟨w1.heap.size, 4, none⟩ = some (.slice (some ⟨M1, 0, none⟩) P1.length c1) ∧ w'.cell? ⟨(w1.heap.size + 1), 0, none⟩ = some (.slice (some ⟨ga, 0, none⟩) x.l.length ca) ∧ w'.cell? ⟨(w1.heap.size + 1), 1, none⟩ = some (.int .i64 x.s) ∧ w'.cell? ⟨(w1.heap.size + 1), 2, none⟩ = some (.int .i64 x.e) ∧ w'.cell? ⟨(w1.heap.size + 1), 3, none⟩ = some (.string x.n) ∧ w'.cell? ⟨w2.heap.size, 0, none⟩ = some (.int .i64 n1) ∧ w'.cell? ⟨w2.heap.size, 1, none⟩ = some (.slice (some ⟨Kx, 0, none⟩) key1.length kx) ∧ w'.cell? ⟨w2.heap.size, 2, none⟩ = some (.int .i64 b1) ∧ w'.cell? ⟨w2.heap.size, 3, none⟩ = some (.int .i64 t1) ∧ w'.cell? ⟨w2.heap.size, 4, none⟩ = some (.slice (some ⟨Mx, ox, none⟩) JL.length cx) ∧ w'.cell? ⟨w4.heap.size, 0, none⟩ = some (.int .i64 n2) ∧ w'.cell? ⟨w4.heap.size, 1, none⟩ = some (.slice (some ⟨Ky, 0, none⟩) key2.length ky) ∧ w'.cell? ⟨w4.heap.size, 2, none⟩ = some (.int .i64 b2) ∧ w'.cell? ⟨w4.heap.size, 3, none⟩ = some (.int .i64 now) ∧ w'.cell? ⟨w4.heap.size, 4, none⟩ = some (.slice (some ⟨My, oy, none⟩) FL.length cy) ∧ w'.cell? ⟨w5.heap.size, 0, none⟩ = some (.int .i64 n2) ∧ w'.cell? ⟨w5.heap.size, 1, none⟩ = some (.slice (some ⟨Kz, 0, none⟩) key2.length kz) ∧ w'.cell? ⟨w5.heap.size, 2, none⟩ = some (.int .i64 b2) ∧ w'.cell? ⟨w5.heap.size, 3, none⟩ = some (.int .i64 now) ∧ w'.cell? ⟨w5.heap.size, 4, none⟩ = some (.slice (some ⟨Mz, oz, none⟩) FL.length cz) ∧ w'.cell? ⟨(w4.heap.size + 1), 0, none⟩ = some (.int .i64 n2) ∧ w'.cell? ⟨(w4.heap.size + 1), 1, none⟩ = some (.slice (some ⟨Kq, 0, none⟩) key2.length kq) ∧ w'.cell? ⟨(w4.heap.size + 1), 2, none⟩ = some (.int .i64 now) ∧ w'.cell? ⟨(w4.heap.size + 1), 3, none⟩ = some (.slice (some ⟨Mq, oq, none⟩) P2.length cq) ∧ w'.cell? ⟨(w5.heap.size + 1), 0, none⟩ = some (.int .i64 n2) ∧ w'.cell? ⟨(w5.heap.size + 1), 1, none⟩ = some (.slice (some ⟨Kr, 0, none⟩) key2.length kr) ∧ w'.cell? ⟨(w5.heap.size + 1), 2, none⟩ = some (.int .i64 now) ∧ w'.cell? ⟨(w5.heap.size + 1), 3, none⟩ = some (.slice (some ⟨Mr, or, none⟩) P2.length cr) ∧ w'.cell? ⟨w6.heap.size, 0, none⟩ = some (.int .i64 n5) ∧ w'.cell? ⟨w6.heap.size, 1, none⟩ = some (.slice (some ⟨K5, 0, none⟩) key5.length k5) ∧ w'.cell? ⟨w6.heap.size, 2, none⟩ = some (.int .i64 b5) ∧ w'.cell? ⟨w6.heap.size, 3, none⟩ = some (.int .i64 t5) ∧ w'.cell? ⟨w6.heap.size, 4, none⟩ = some (.slice (some ⟨M5, 0, none⟩) P5.length c5) ∧ w'.cell? ⟨w7.heap.size, 0, none⟩ = some (.int .i64 n6) ∧ w'.cell? ⟨w7.heap.size, 1, none⟩ = some (.slice (some ⟨K6, 0, none⟩) key6.length k6) ∧ w'.cell? ⟨w7.heap.size, 2, none⟩ = some (.int .i64 b6) ∧ w'.cell? ⟨w7.heap.size, 3, none⟩ = some (.int .i64 t6) ∧ w'.cell? ⟨w7.heap.size, 4, none⟩ = some (.slice (some ⟨M6, 0, none⟩) P6.length c6) ∧ w'.cell? ⟨(w7.heap.size + 1), 0, none⟩ = some (.int .i64 n7) ∧ w'.cell? ⟨(w7.heap.size + 1), 1, none⟩ = some (.slice (some ⟨K7, 0, none⟩) key7.length k7) ∧ w'.cell? ⟨(w7.heap.size + 1), 2, none⟩ = some (.int .i64 b7) ∧ w'.cell? ⟨(w7.heap.size + 1), 3, none⟩ = some (.int .i64 t7) ∧ w'.cell? ⟨(w7.heap.size + 1), 4, none⟩ = some (.slice (some ⟨M7, 0, none⟩) P7.length c7) ∧ w'.cell? ⟨w8.heap.size, 0, none⟩ = some (.int .i64 n8) ∧ w'.cell? ⟨w8.heap.size, 1, none⟩ = some (.slice (some ⟨K8, 0, none⟩) key8.length k8) ∧ w'.cell? ⟨w8.heap.size, 2, none⟩ = some (.int .i64 b8) ∧ w'.cell? ⟨w8.heap.size, 3, none⟩ = some (.slice (some ⟨M8, 0, none⟩) P8.length c8) ∧ w'.cell? ⟨(w8.heap.size + 1), 0, none⟩ = some (.int .i64 n9) ∧ w'.cell? ⟨(w8.heap.size + 1), 1, none⟩ = some (.slice (some ⟨K9, 0, none⟩) key9.length k9) ∧ w'.cell? ⟨(w8.heap.size + 1), 2, none⟩ = some (.int .i64 b9) ∧ w'.cell? ⟨(w8.heap.size + 1), 3, none⟩ = some (.slice (some ⟨M9, 0, none⟩) P9.length c9) ∧ w'.cell? ⟨w9.heap.size, 0, none⟩ = some (.int .i64 n0) ∧ w'.cell? ⟨w9.heap.size, 1, none⟩ = some (.slice (some ⟨K0, 0, none⟩) key0.length k0) ∧ w'.cell? ⟨w9.heap.size, 2, none⟩ = some (.int .i64 b0) ∧ w'.cell? ⟨w9.heap.size, 3, none⟩ = some (.int .i64 t0) ∧ w'.cell? ⟨w9.heap.size, 4, none⟩ = some (.slice (some ⟨M0, 0, none⟩) P0.length c0)) (by kernel_rfl) (HS.out _ (Below.refl _ _).drew) (fun hHeld => ?_)
  refine wpAnyH_take (i := 0) (oi := { dst := some 74, op := Op.load 27 (Operand.tmp 5), type := 27, pos := "laws.go:522", after := #[], guard := none }) (v := ?vr0) rfl (by kernel_rfl) (by kernel_rfl) (by kernel_rfl) (fun _ _ _ h => h) (Or.inl ⟨by rfl, ?hyr0⟩) hHeld ?_
  case hyr0 => (intro w hSw; (try dsimp only at hSw); go_simp <;> with_reducible rfl)
  try simp only [Act.put, List.setIfInBounds_toArray, List.set_cons_zero, List.set_cons_succ]
  refine wpAnyH_take (i := 1) (oi := { dst := some 75, op := Op.load 27 (Operand.tmp 3), type := 27, pos := "laws.go:522", after := #[], guard := none }) (v := ?vr1) rfl (by kernel_rfl) (by kernel_rfl) (by kernel_rfl) (fun _ _ _ h => h) (Or.inl ⟨by rfl, ?hyr1⟩) hHeld ?_
  case hyr1 => (intro w hSw; (try dsimp only at hSw); go_simp <;> with_reducible rfl)
  try simp only [Act.put, List.setIfInBounds_toArray, List.set_cons_zero, List.set_cons_succ]
  refine wpAnyH_take (i := 2) (oi := { dst := some 76, op := Op.load 29 (Operand.tmp 4), type := 29, pos := "laws.go:522", after := #[], guard := none }) (v := ?vr2) rfl (by kernel_rfl) (by kernel_rfl) (by kernel_rfl) (fun _ _ _ h => h) (Or.inl ⟨by rfl, ?hyr2⟩) hHeld ?_
  case hyr2 => (intro w hSw; (try dsimp only at hSw); go_simp <;> with_reducible rfl)
  try simp only [Act.put, List.setIfInBounds_toArray, List.set_cons_zero, List.set_cons_succ]
  refine wpAnyH_ready (rs := [3]) (by kernel_rfl) (by simp) ?_
  refine AllReadyH.cons (o := { dst := some 77, op := Op.call { callee := Callee.value (Operand.func 20), args := #[Operand.tmp 75, Operand.tmp 76], argTypes := #[27, 29] }, type := 27, pos := "laws.go:522", after := #[{ on := 1, ground := Ground.data }, { on := 2, ground := Ground.data }], guard := none }) rfl (fun K hK => ?_) AllReadyH.nil
  go_simp
  refine (C3.out _ hHeld.1).mono ?_
  rintro r wvr3 ⟨⟨Ka, ka, Ma, oa, cca, rfl, hk3, hr3⟩, hy⟩
  have HK3 : Hid (Reads wvr3 (some ⟨Ka, 0, none⟩) key1 ∧ RdN wvr3 (some ⟨Ma, oa, none⟩) JL) := ⟨hk3, hr3⟩
  clear hk3 hr3
  have hz : Below z9.heap.size z9 wvr3 := grow_on hHeld.1 hy
  clear hHeld hy
  refine hK.out _ _ (HS.out _ hz) (fun hHeld => ?_)
  clear hK K hz
  try simp only [Act.put, List.setIfInBounds_toArray, List.set_cons_zero, List.set_cons_succ]
  refine wpAnyH_ready (rs := [4]) (by kernel_rfl) (by simp) ?_
  refine AllReadyH.cons (o := { dst := some 78, op := Op.call { callee := Callee.value (Operand.func 19), args := #[Operand.tmp 74, Operand.tmp 77], argTypes := #[27, 27] }, type := 4, pos := "laws.go:522", after := #[{ on := 0, ground := Ground.data }, { on := 3, ground := Ground.data }, { on := 3, ground := Ground.chain }], guard := none }) rfl (fun K hK => ?_) AllReadyH.nil
  go_simp
  refine (C4.out _ _ _ _ _ _ hHeld.1 HK3.out.1 HK3.out.2).mono ?_
  rintro r wvr4 ⟨rfl, hy⟩
  have hz : Below z9.heap.size z9 wvr4 := grow_on hHeld.1 hy
  clear hHeld hy
  refine hK.out _ _ (HS.out _ hz) (fun hHeld => ?_)
  clear hK K hz
  try simp only [Act.put, List.setIfInBounds_toArray, List.set_cons_zero, List.set_cons_succ]
  refine wpAnyH_take (i := 5) (oi := { dst := some 79, op := Op.unOp UnOp.not 4 (Operand.tmp 78), type := 4, pos := "laws.go:522", after := #[{ on := 4, ground := Ground.data }], guard := none }) (v := ?vr5) rfl (by kernel_rfl) (by kernel_rfl) (by kernel_rfl) (fun _ _ _ h => h) (Or.inl ⟨by rfl, ?hyr5⟩) hHeld ?_
  case hyr5 => (intro w hSw; (try dsimp only at hSw); go_simp <;> with_reducible rfl)
  try simp only [Act.put, List.setIfInBounds_toArray, List.set_cons_zero, List.set_cons_succ]
  refine wpAnyH_take (i := 6) (oi := { dst := some 80, op := Op.move (Operand.tmp 79), type := 4, pos := "laws.go:522", after := #[{ on := 5, ground := Ground.data }, { on := 4, ground := Ground.chain }], guard := none }) (v := ?vr6) rfl (by kernel_rfl) (by kernel_rfl) (by kernel_rfl) (fun _ _ _ h => h) (Or.inl ⟨by rfl, ?hyr6⟩) hHeld ?_
  case hyr6 => (intro w hSw; (try dsimp only at hSw); go_simp <;> with_reducible rfl)
  try simp only [Act.put, List.setIfInBounds_toArray, List.set_cons_zero, List.set_cons_succ]
  refine wpAnyH_take (i := 7) (oi := { dst := some 81, op := Op.load 27 (Operand.tmp 8), type := 27, pos := "laws.go:522", after := #[{ on := 6, ground := Ground.guard }], guard := some (6, false) }) (v := ?vr7) rfl (by kernel_rfl) (by kernel_rfl) (by kernel_rfl) (fun _ _ _ h => h) (Or.inl ⟨by rfl, ?hyr7⟩) hHeld ?_
  case hyr7 => (intro w hSw; (try dsimp only at hSw); go_simp <;> with_reducible rfl)
  try simp only [Act.put, List.setIfInBounds_toArray, List.set_cons_zero, List.set_cons_succ]
  refine wpAnyH_take (i := 8) (oi := { dst := some 82, op := Op.load 27 (Operand.tmp 10), type := 27, pos := "laws.go:522", after := #[{ on := 6, ground := Ground.guard }], guard := some (6, false) }) (v := ?vr8) rfl (by kernel_rfl) (by kernel_rfl) (by kernel_rfl) (fun _ _ _ h => h) (Or.inl ⟨by rfl, ?hyr8⟩) hHeld ?_
  case hyr8 => (intro w hSw; (try dsimp only at hSw); go_simp <;> with_reducible rfl)
  try simp only [Act.put, List.setIfInBounds_toArray, List.set_cons_zero, List.set_cons_succ]
  refine wpAnyH_ready (rs := [9]) (by kernel_rfl) (by simp) ?_
  refine AllReadyH.cons (o := { dst := some 83, op := Op.call { callee := Callee.value (Operand.func 19), args := #[Operand.tmp 81, Operand.tmp 82], argTypes := #[27, 27] }, type := 4, pos := "laws.go:522", after := #[{ on := 7, ground := Ground.data }, { on := 8, ground := Ground.data }, { on := 6, ground := Ground.chain }, { on := 6, ground := Ground.guard }], guard := some (6, false) }) rfl (fun K hK => ?_) AllReadyH.nil
  go_simp
  refine (C9.out _ hHeld.1).mono ?_
  rintro r wvr9 ⟨rfl, hy⟩
  have hz : Below z9.heap.size z9 wvr9 := grow_on hHeld.1 hy
  clear hHeld hy
  refine hK.out _ _ (HS.out _ hz) (fun hHeld => ?_)
  clear hK K hz
  try simp only [Act.put, List.setIfInBounds_toArray, List.set_cons_zero, List.set_cons_succ]
  refine wpAnyH_take (i := 10) (oi := { dst := some 84, op := Op.unOp UnOp.not 4 (Operand.tmp 83), type := 4, pos := "laws.go:522", after := #[{ on := 9, ground := Ground.data }, { on := 6, ground := Ground.guard }], guard := some (6, false) }) (v := ?vr10) rfl (by kernel_rfl) (by kernel_rfl) (by kernel_rfl) (fun _ _ _ h => h) (Or.inl ⟨by rfl, ?hyr10⟩) hHeld ?_
  case hyr10 => (intro w hSw; (try dsimp only at hSw); go_simp <;> with_reducible rfl)
  try simp only [Act.put, List.setIfInBounds_toArray, List.set_cons_zero, List.set_cons_succ]
  refine wpAnyH_take (i := 11) (oi := { dst := some 85, op := Op.pick (Operand.tmp 80) (Operand.const (Value.bool true)) (Operand.tmp 84), type := 4, pos := "laws.go:522", after := #[{ on := 6, ground := Ground.data }, { on := 10, ground := Ground.data }], guard := none }) (v := ?vr11) rfl (by kernel_rfl) (by kernel_rfl) (by kernel_rfl) (fun _ _ _ h => h) (Or.inl ⟨by rfl, ?hyr11⟩) hHeld ?_
  case hyr11 => (intro w hSw; (try dsimp only at hSw); go_simp <;> with_reducible rfl)
  try simp only [Act.put, List.setIfInBounds_toArray, List.set_cons_zero, List.set_cons_succ]
  refine wpAnyH_take (i := 12) (oi := { dst := some 86, op := Op.move (Operand.tmp 85), type := 4, pos := "laws.go:522", after := #[{ on := 11, ground := Ground.data }, { on := 9, ground := Ground.chain }], guard := none }) (v := ?vr12) rfl (by kernel_rfl) (by kernel_rfl) (by kernel_rfl) (fun _ _ _ h => h) (Or.inl ⟨by rfl, ?hyr12⟩) hHeld ?_
  case hyr12 => (intro w hSw; (try dsimp only at hSw); go_simp <;> with_reducible rfl)
  try simp only [Act.put, List.setIfInBounds_toArray, List.set_cons_zero, List.set_cons_succ]
  refine wpAnyH_take (i := 13) (oi := { dst := some 87, op := Op.load 36 (Operand.tmp 9), type := 36, pos := "laws.go:522", after := #[{ on := 12, ground := Ground.guard }], guard := some (12, false) }) (v := ?vr13) rfl (by kernel_rfl) (by kernel_rfl) (by kernel_rfl) (fun _ _ _ h => h) (Or.inl ⟨by rfl, ?hyr13⟩) hHeld ?_
  case hyr13 => (intro w hSw; (try dsimp only at hSw); go_simp <;> with_reducible rfl)
  try simp only [Act.put, List.setIfInBounds_toArray, List.set_cons_zero, List.set_cons_succ]
  refine wpAnyH_take (i := 14) (oi := { dst := some 88, op := Op.load 36 (Operand.tmp 11), type := 36, pos := "laws.go:522", after := #[{ on := 12, ground := Ground.guard }], guard := some (12, false) }) (v := ?vr14) rfl (by kernel_rfl) (by kernel_rfl) (by kernel_rfl) (fun _ _ _ h => h) (Or.inl ⟨by rfl, ?hyr14⟩) hHeld ?_
  case hyr14 => (intro w hSw; (try dsimp only at hSw); go_simp <;> with_reducible rfl)
  try simp only [Act.put, List.setIfInBounds_toArray, List.set_cons_zero, List.set_cons_succ]
  refine wpAnyH_ready (rs := [15]) (by kernel_rfl) (by simp) ?_
  refine AllReadyH.cons (o := { dst := some 89, op := Op.call { callee := Callee.value (Operand.func 21), args := #[Operand.tmp 87, Operand.tmp 88], argTypes := #[36, 36] }, type := 4, pos := "laws.go:522", after := #[{ on := 13, ground := Ground.data }, { on := 14, ground := Ground.data }, { on := 12, ground := Ground.chain }, { on := 12, ground := Ground.guard }], guard := some (12, false) }) rfl (fun K hK => ?_) AllReadyH.nil
  go_simp
  refine (C15.out _ hHeld.1).mono ?_
  rintro r wvr15 ⟨rfl, hy⟩
  have hz : Below z9.heap.size z9 wvr15 := grow_on hHeld.1 hy
  clear hHeld hy
  refine hK.out _ _ (HS.out _ hz) (fun hHeld => ?_)
  clear hK K hz
  try simp only [Act.put, List.setIfInBounds_toArray, List.set_cons_zero, List.set_cons_succ]
  refine wpAnyH_take (i := 16) (oi := { dst := some 90, op := Op.unOp UnOp.not 4 (Operand.tmp 89), type := 4, pos := "laws.go:522", after := #[{ on := 15, ground := Ground.data }, { on := 12, ground := Ground.guard }], guard := some (12, false) }) (v := ?vr16) rfl (by kernel_rfl) (by kernel_rfl) (by kernel_rfl) (fun _ _ _ h => h) (Or.inl ⟨by rfl, ?hyr16⟩) hHeld ?_
  case hyr16 => (intro w hSw; (try dsimp only at hSw); go_simp <;> with_reducible rfl)
  try simp only [Act.put, List.setIfInBounds_toArray, List.set_cons_zero, List.set_cons_succ]
  refine wpAnyH_take (i := 17) (oi := { dst := some 91, op := Op.pick (Operand.tmp 86) (Operand.const (Value.bool true)) (Operand.tmp 90), type := 4, pos := "laws.go:522", after := #[{ on := 12, ground := Ground.data }, { on := 16, ground := Ground.data }], guard := none }) (v := ?vr17) rfl (by kernel_rfl) (by kernel_rfl) (by kernel_rfl) (fun _ _ _ h => h) (Or.inl ⟨by rfl, ?hyr17⟩) hHeld ?_
  case hyr17 => (intro w hSw; (try dsimp only at hSw); go_simp <;> with_reducible rfl)
  try simp only [Act.put, List.setIfInBounds_toArray, List.set_cons_zero, List.set_cons_succ]
  refine wpAnyH_take (i := 18) (oi := { dst := some 92, op := Op.move (Operand.tmp 91), type := 4, pos := "laws.go:522", after := #[{ on := 17, ground := Ground.data }, { on := 15, ground := Ground.chain }], guard := none }) (v := ?vr18) rfl (by kernel_rfl) (by kernel_rfl) (by kernel_rfl) (fun _ _ _ h => h) (Or.inl ⟨by rfl, ?hyr18⟩) hHeld ?_
  case hyr18 => (intro w hSw; (try dsimp only at hSw); go_simp <;> with_reducible rfl)
  try simp only [Act.put, List.setIfInBounds_toArray, List.set_cons_zero, List.set_cons_succ]
  refine wpAnyH_take (i := 19) (oi := { dst := some 93, op := Op.load 27 (Operand.tmp 12), type := 27, pos := "laws.go:522", after := #[{ on := 18, ground := Ground.guard }], guard := some (18, false) }) (v := ?vr19) rfl (by kernel_rfl) (by kernel_rfl) (by kernel_rfl) (fun _ _ _ h => h) (Or.inl ⟨by rfl, ?hyr19⟩) hHeld ?_
  case hyr19 => (intro w hSw; (try dsimp only at hSw); go_simp <;> with_reducible rfl)
  try simp only [Act.put, List.setIfInBounds_toArray, List.set_cons_zero, List.set_cons_succ]
  refine wpAnyH_take (i := 20) (oi := { dst := some 94, op := Op.move (Operand.tmp 13), type := 39, pos := "laws.go:522", after := #[{ on := 18, ground := Ground.guard }], guard := some (18, false) }) (v := ?vr20) rfl (by kernel_rfl) (by kernel_rfl) (by kernel_rfl) (fun _ _ _ h => h) (Or.inl ⟨by rfl, ?hyr20⟩) hHeld ?_
  case hyr20 => (intro w hSw; (try dsimp only at hSw); go_simp <;> with_reducible rfl)
  try simp only [Act.put, List.setIfInBounds_toArray, List.set_cons_zero, List.set_cons_succ]
  refine wpAnyH_take (i := 22) (oi := { dst := some 96, op := Op.load 27 (Operand.tmp 12), type := 27, pos := "laws.go:522", after := #[{ on := 18, ground := Ground.guard }], guard := some (18, false) }) (v := ?vr22) rfl (by kernel_rfl) (by kernel_rfl) (by kernel_rfl) (fun _ _ _ h => h) (Or.inl ⟨by rfl, ?hyr22⟩) hHeld ?_
  case hyr22 => (intro w hSw; (try dsimp only at hSw); go_simp <;> with_reducible rfl)
  try simp only [Act.put, List.setIfInBounds_toArray, List.set_cons_zero, List.set_cons_succ]
  refine wpAnyH_take (i := 23) (oi := { dst := some 97, op := Op.move (Operand.tmp 13), type := 39, pos := "laws.go:522", after := #[{ on := 18, ground := Ground.guard }], guard := some (18, false) }) (v := ?vr23) rfl (by kernel_rfl) (by kernel_rfl) (by kernel_rfl) (fun _ _ _ h => h) (Or.inl ⟨by rfl, ?hyr23⟩) hHeld ?_
  case hyr23 => (intro w hSw; (try dsimp only at hSw); go_simp <;> with_reducible rfl)
  try simp only [Act.put, List.setIfInBounds_toArray, List.set_cons_zero, List.set_cons_succ]
  refine wpAnyH_ready (rs := [21]) (by kernel_rfl) (by simp) ?_
  refine AllReadyH.cons (o := { dst := some 95, op := Op.call { callee := Callee.value (Operand.func 22), args := #[Operand.tmp 93, Operand.tmp 94], argTypes := #[27, 39] }, type := 4, pos := "laws.go:522", after := #[{ on := 19, ground := Ground.data }, { on := 20, ground := Ground.data }, { on := 18, ground := Ground.chain }, { on := 18, ground := Ground.guard }], guard := some (18, false) }) rfl (fun K hK => ?_) AllReadyH.nil
  go_simp
  refine (C21.out _ hHeld.1).mono ?_
  rintro r wvr21 ⟨rfl, hy⟩
  have hz : Below z9.heap.size z9 wvr21 := grow_on hHeld.1 hy
  clear hHeld hy
  refine hK.out _ _ (HS.out _ hz) (fun hHeld => ?_)
  clear hK K hz
  try simp only [Act.put, List.setIfInBounds_toArray, List.set_cons_zero, List.set_cons_succ]
  refine wpAnyH_ready (rs := [24]) (by kernel_rfl) (by simp) ?_
  refine AllReadyH.cons (o := { dst := some 98, op := Op.call { callee := Callee.value (Operand.func 23), args := #[Operand.tmp 96, Operand.tmp 97], argTypes := #[27, 39] }, type := 4, pos := "laws.go:522", after := #[{ on := 22, ground := Ground.data }, { on := 23, ground := Ground.data }, { on := 21, ground := Ground.chain }, { on := 18, ground := Ground.guard }], guard := some (18, false) }) rfl (fun K hK => ?_) AllReadyH.nil
  go_simp
  refine (C24.out _ hHeld.1).mono ?_
  rintro r wvr24 ⟨rfl, hy⟩
  have hz : Below z9.heap.size z9 wvr24 := grow_on hHeld.1 hy
  clear hHeld hy
  refine hK.out _ _ (HS.out _ hz) (fun hHeld => ?_)
  clear hK K hz
  try simp only [Act.put, List.setIfInBounds_toArray, List.set_cons_zero, List.set_cons_succ]
  refine wpAnyH_take (i := 25) (oi := { dst := some 99, op := Op.binOp BinOp.neq 4 (Operand.tmp 95) (Operand.tmp 98) 4, type := 4, pos := "laws.go:522", after := #[{ on := 21, ground := Ground.data }, { on := 24, ground := Ground.data }, { on := 18, ground := Ground.guard }], guard := some (18, false) }) (v := ?vr25) rfl (by kernel_rfl) (by kernel_rfl) (by kernel_rfl) (fun _ _ _ h => h) (Or.inl ⟨by rfl, ?hyr25⟩) hHeld ?_
  case hyr25 => (intro w hSw; (try dsimp only at hSw); go_simp <;> with_reducible rfl)
  try simp only [Act.put, List.setIfInBounds_toArray, List.set_cons_zero, List.set_cons_succ]
  refine wpAnyH_take (i := 26) (oi := { dst := some 100, op := Op.pick (Operand.tmp 92) (Operand.const (Value.bool true)) (Operand.tmp 99), type := 4, pos := "laws.go:522", after := #[{ on := 18, ground := Ground.data }, { on := 25, ground := Ground.data }], guard := none }) (v := ?vr26) rfl (by kernel_rfl) (by kernel_rfl) (by kernel_rfl) (fun _ _ _ h => h) (Or.inl ⟨by rfl, ?hyr26⟩) hHeld ?_
  case hyr26 => (intro w hSw; (try dsimp only at hSw); go_simp <;> with_reducible rfl)
  try simp only [Act.put, List.setIfInBounds_toArray, List.set_cons_zero, List.set_cons_succ]
  refine wpAnyH_take (i := 27) (oi := { dst := some 101, op := Op.move (Operand.tmp 100), type := 4, pos := "laws.go:522", after := #[{ on := 26, ground := Ground.data }, { on := 24, ground := Ground.chain }], guard := none }) (v := ?vr27) rfl (by kernel_rfl) (by kernel_rfl) (by kernel_rfl) (fun _ _ _ h => h) (Or.inl ⟨by rfl, ?hyr27⟩) hHeld ?_
  case hyr27 => (intro w hSw; (try dsimp only at hSw); go_simp <;> with_reducible rfl)
  try simp only [Act.put, List.setIfInBounds_toArray, List.set_cons_zero, List.set_cons_succ]
  refine wpAnyH_take (i := 28) (oi := { dst := some 102, op := Op.load 27 (Operand.tmp 14), type := 27, pos := "laws.go:522", after := #[{ on := 27, ground := Ground.guard }], guard := some (27, false) }) (v := ?vr28) rfl (by kernel_rfl) (by kernel_rfl) (by kernel_rfl) (fun _ _ _ h => h) (Or.inl ⟨by rfl, ?hyr28⟩) hHeld ?_
  case hyr28 => (intro w hSw; (try dsimp only at hSw); go_simp <;> with_reducible rfl)
  try simp only [Act.put, List.setIfInBounds_toArray, List.set_cons_zero, List.set_cons_succ]
  refine wpAnyH_take (i := 29) (oi := { dst := some 103, op := Op.load 27 (Operand.tmp 15), type := 27, pos := "laws.go:522", after := #[{ on := 27, ground := Ground.guard }], guard := some (27, false) }) (v := ?vr29) rfl (by kernel_rfl) (by kernel_rfl) (by kernel_rfl) (fun _ _ _ h => h) (Or.inl ⟨by rfl, ?hyr29⟩) hHeld ?_
  case hyr29 => (intro w hSw; (try dsimp only at hSw); go_simp <;> with_reducible rfl)
  try simp only [Act.put, List.setIfInBounds_toArray, List.set_cons_zero, List.set_cons_succ]
  refine wpAnyH_take (i := 31) (oi := { dst := some 105, op := Op.load 27 (Operand.tmp 14), type := 27, pos := "laws.go:522", after := #[{ on := 27, ground := Ground.guard }], guard := some (27, false) }) (v := ?vr31) rfl (by kernel_rfl) (by kernel_rfl) (by kernel_rfl) (fun _ _ _ h => h) (Or.inl ⟨by rfl, ?hyr31⟩) hHeld ?_
  case hyr31 => (intro w hSw; (try dsimp only at hSw); go_simp <;> with_reducible rfl)
  try simp only [Act.put, List.setIfInBounds_toArray, List.set_cons_zero, List.set_cons_succ]
  refine wpAnyH_take (i := 32) (oi := { dst := some 106, op := Op.load 27 (Operand.tmp 15), type := 27, pos := "laws.go:522", after := #[{ on := 27, ground := Ground.guard }], guard := some (27, false) }) (v := ?vr32) rfl (by kernel_rfl) (by kernel_rfl) (by kernel_rfl) (fun _ _ _ h => h) (Or.inl ⟨by rfl, ?hyr32⟩) hHeld ?_
  case hyr32 => (intro w hSw; (try dsimp only at hSw); go_simp <;> with_reducible rfl)
  try simp only [Act.put, List.setIfInBounds_toArray, List.set_cons_zero, List.set_cons_succ]
  refine wpAnyH_ready (rs := [30]) (by kernel_rfl) (by simp) ?_
  refine AllReadyH.cons (o := { dst := some 104, op := Op.call { callee := Callee.value (Operand.func 19), args := #[Operand.tmp 102, Operand.tmp 103], argTypes := #[27, 27] }, type := 4, pos := "laws.go:522", after := #[{ on := 28, ground := Ground.data }, { on := 29, ground := Ground.data }, { on := 27, ground := Ground.chain }, { on := 27, ground := Ground.guard }], guard := some (27, false) }) rfl (fun K hK => ?_) AllReadyH.nil
  go_simp
  refine (C30.out _ hHeld.1).mono ?_
  rintro r wvr30 ⟨rfl, hy⟩
  have hz : Below z9.heap.size z9 wvr30 := grow_on hHeld.1 hy
  clear hHeld hy
  refine hK.out _ _ (HS.out _ hz) (fun hHeld => ?_)
  clear hK K hz
  try simp only [Act.put, List.setIfInBounds_toArray, List.set_cons_zero, List.set_cons_succ]
  refine wpAnyH_ready (rs := [33]) (by kernel_rfl) (by simp) ?_
  refine AllReadyH.cons (o := { dst := some 107, op := Op.call { callee := Callee.value (Operand.func 24), args := #[Operand.tmp 105, Operand.tmp 106], argTypes := #[27, 27] }, type := 4, pos := "laws.go:522", after := #[{ on := 31, ground := Ground.data }, { on := 32, ground := Ground.data }, { on := 30, ground := Ground.chain }, { on := 27, ground := Ground.guard }], guard := some (27, false) }) rfl (fun K hK => ?_) AllReadyH.nil
  go_simp
  refine (C33.out _ hHeld.1).mono ?_
  rintro r wvr33 ⟨rfl, hy⟩
  have hz : Below z9.heap.size z9 wvr33 := grow_on hHeld.1 hy
  clear hHeld hy
  refine hK.out _ _ (HS.out _ hz) (fun hHeld => ?_)
  clear hK K hz
  try simp only [Act.put, List.setIfInBounds_toArray, List.set_cons_zero, List.set_cons_succ]
  refine wpAnyH_take (i := 34) (oi := { dst := some 108, op := Op.binOp BinOp.neq 4 (Operand.tmp 104) (Operand.tmp 107) 4, type := 4, pos := "laws.go:522", after := #[{ on := 30, ground := Ground.data }, { on := 33, ground := Ground.data }, { on := 27, ground := Ground.guard }], guard := some (27, false) }) (v := ?vr34) rfl (by kernel_rfl) (by kernel_rfl) (by kernel_rfl) (fun _ _ _ h => h) (Or.inl ⟨by rfl, ?hyr34⟩) hHeld ?_
  case hyr34 => (intro w hSw; (try dsimp only at hSw); go_simp <;> with_reducible rfl)
  try simp only [Act.put, List.setIfInBounds_toArray, List.set_cons_zero, List.set_cons_succ]
  refine wpAnyH_take (i := 35) (oi := { dst := some 109, op := Op.pick (Operand.tmp 101) (Operand.const (Value.bool true)) (Operand.tmp 108), type := 4, pos := "laws.go:522", after := #[{ on := 27, ground := Ground.data }, { on := 34, ground := Ground.data }], guard := none }) (v := ?vr35) rfl (by kernel_rfl) (by kernel_rfl) (by kernel_rfl) (fun _ _ _ h => h) (Or.inl ⟨by rfl, ?hyr35⟩) hHeld ?_
  case hyr35 => (intro w hSw; (try dsimp only at hSw); go_simp <;> with_reducible rfl)
  try simp only [Act.put, List.setIfInBounds_toArray, List.set_cons_zero, List.set_cons_succ]
  refine wpAnyH_take (i := 36) (oi := { dst := some 110, op := Op.move (Operand.tmp 109), type := 4, pos := "laws.go:522", after := #[{ on := 35, ground := Ground.data }, { on := 33, ground := Ground.chain }], guard := none }) (v := ?vr36) rfl (by kernel_rfl) (by kernel_rfl) (by kernel_rfl) (fun _ _ _ h => h) (Or.inl ⟨by rfl, ?hyr36⟩) hHeld ?_
  case hyr36 => (intro w hSw; (try dsimp only at hSw); go_simp <;> with_reducible rfl)
  try simp only [Act.put, List.setIfInBounds_toArray, List.set_cons_zero, List.set_cons_succ]
  refine wpAnyH_take (i := 37) (oi := { dst := some 111, op := Op.load 36 (Operand.tmp 16), type := 36, pos := "laws.go:522", after := #[{ on := 36, ground := Ground.guard }], guard := some (36, false) }) (v := ?vr37) rfl (by kernel_rfl) (by kernel_rfl) (by kernel_rfl) (fun _ _ _ h => h) (Or.inl ⟨by rfl, ?hyr37⟩) hHeld ?_
  case hyr37 => (intro w hSw; (try dsimp only at hSw); go_simp <;> with_reducible rfl)
  try simp only [Act.put, List.setIfInBounds_toArray, List.set_cons_zero, List.set_cons_succ]
  refine wpAnyH_take (i := 38) (oi := { dst := some 112, op := Op.load 36 (Operand.tmp 17), type := 36, pos := "laws.go:522", after := #[{ on := 36, ground := Ground.guard }], guard := some (36, false) }) (v := ?vr38) rfl (by kernel_rfl) (by kernel_rfl) (by kernel_rfl) (fun _ _ _ h => h) (Or.inl ⟨by rfl, ?hyr38⟩) hHeld ?_
  case hyr38 => (intro w hSw; (try dsimp only at hSw); go_simp <;> with_reducible rfl)
  try simp only [Act.put, List.setIfInBounds_toArray, List.set_cons_zero, List.set_cons_succ]
  refine wpAnyH_take (i := 40) (oi := { dst := some 114, op := Op.load 36 (Operand.tmp 16), type := 36, pos := "laws.go:522", after := #[{ on := 36, ground := Ground.guard }], guard := some (36, false) }) (v := ?vr40) rfl (by kernel_rfl) (by kernel_rfl) (by kernel_rfl) (fun _ _ _ h => h) (Or.inl ⟨by rfl, ?hyr40⟩) hHeld ?_
  case hyr40 => (intro w hSw; (try dsimp only at hSw); go_simp <;> with_reducible rfl)
  try simp only [Act.put, List.setIfInBounds_toArray, List.set_cons_zero, List.set_cons_succ]
  refine wpAnyH_take (i := 41) (oi := { dst := some 115, op := Op.load 36 (Operand.tmp 17), type := 36, pos := "laws.go:522", after := #[{ on := 36, ground := Ground.guard }], guard := some (36, false) }) (v := ?vr41) rfl (by kernel_rfl) (by kernel_rfl) (by kernel_rfl) (fun _ _ _ h => h) (Or.inl ⟨by rfl, ?hyr41⟩) hHeld ?_
  case hyr41 => (intro w hSw; (try dsimp only at hSw); go_simp <;> with_reducible rfl)
  try simp only [Act.put, List.setIfInBounds_toArray, List.set_cons_zero, List.set_cons_succ]
  refine wpAnyH_ready (rs := [39]) (by kernel_rfl) (by simp) ?_
  refine AllReadyH.cons (o := { dst := some 113, op := Op.call { callee := Callee.value (Operand.func 21), args := #[Operand.tmp 111, Operand.tmp 112], argTypes := #[36, 36] }, type := 4, pos := "laws.go:522", after := #[{ on := 37, ground := Ground.data }, { on := 38, ground := Ground.data }, { on := 36, ground := Ground.chain }, { on := 36, ground := Ground.guard }], guard := some (36, false) }) rfl (fun K hK => ?_) AllReadyH.nil
  go_simp
  refine (C39.out _ hHeld.1).mono ?_
  rintro r wvr39 ⟨rfl, hy⟩
  have hz : Below z9.heap.size z9 wvr39 := grow_on hHeld.1 hy
  clear hHeld hy
  refine hK.out _ _ (HS.out _ hz) (fun hHeld => ?_)
  clear hK K hz
  try simp only [Act.put, List.setIfInBounds_toArray, List.set_cons_zero, List.set_cons_succ]
  refine wpAnyH_ready (rs := [42]) (by kernel_rfl) (by simp) ?_
  refine AllReadyH.cons (o := { dst := some 116, op := Op.call { callee := Callee.value (Operand.func 25), args := #[Operand.tmp 114, Operand.tmp 115], argTypes := #[36, 36] }, type := 4, pos := "laws.go:522", after := #[{ on := 40, ground := Ground.data }, { on := 41, ground := Ground.data }, { on := 39, ground := Ground.chain }, { on := 36, ground := Ground.guard }], guard := some (36, false) }) rfl (fun K hK => ?_) AllReadyH.nil
  go_simp
  refine (C42.out _ hHeld.1).mono ?_
  rintro r wvr42 ⟨rfl, hy⟩
  have hz : Below z9.heap.size z9 wvr42 := grow_on hHeld.1 hy
  clear hHeld hy
  refine hK.out _ _ (HS.out _ hz) (fun hHeld => ?_)
  clear hK K hz
  try simp only [Act.put, List.setIfInBounds_toArray, List.set_cons_zero, List.set_cons_succ]
  refine wpAnyH_take (i := 43) (oi := { dst := some 117, op := Op.binOp BinOp.neq 4 (Operand.tmp 113) (Operand.tmp 116) 4, type := 4, pos := "laws.go:522", after := #[{ on := 39, ground := Ground.data }, { on := 42, ground := Ground.data }, { on := 36, ground := Ground.guard }], guard := some (36, false) }) (v := ?vr43) rfl (by kernel_rfl) (by kernel_rfl) (by kernel_rfl) (fun _ _ _ h => h) (Or.inl ⟨by rfl, ?hyr43⟩) hHeld ?_
  case hyr43 => (intro w hSw; (try dsimp only at hSw); go_simp <;> with_reducible rfl)
  try simp only [Act.put, List.setIfInBounds_toArray, List.set_cons_zero, List.set_cons_succ]
  refine wpAnyH_take (i := 44) (oi := { dst := some 118, op := Op.pick (Operand.tmp 110) (Operand.const (Value.bool true)) (Operand.tmp 117), type := 4, pos := "laws.go:522", after := #[{ on := 36, ground := Ground.data }, { on := 43, ground := Ground.data }], guard := none }) (v := ?vr44) rfl (by kernel_rfl) (by kernel_rfl) (by kernel_rfl) (fun _ _ _ h => h) (Or.inl ⟨by rfl, ?hyr44⟩) hHeld ?_
  case hyr44 => (intro w hSw; (try dsimp only at hSw); go_simp <;> with_reducible rfl)
  try simp only [Act.put, List.setIfInBounds_toArray, List.set_cons_zero, List.set_cons_succ]
  refine wpAnyH_take (i := 45) (oi := { dst := some 119, op := Op.move (Operand.tmp 118), type := 4, pos := "laws.go:522", after := #[{ on := 44, ground := Ground.data }, { on := 42, ground := Ground.chain }], guard := none }) (v := ?vr45) rfl (by kernel_rfl) (by kernel_rfl) (by kernel_rfl) (fun _ _ _ h => h) (Or.inl ⟨by rfl, ?hyr45⟩) hHeld ?_
  case hyr45 => (intro w hSw; (try dsimp only at hSw); go_simp <;> with_reducible rfl)
  try simp only [Act.put, List.setIfInBounds_toArray, List.set_cons_zero, List.set_cons_succ]
  refine wpAnyH_take (i := 46) (oi := { dst := some 120, op := Op.load 27 (Operand.tmp 18), type := 27, pos := "laws.go:522", after := #[{ on := 45, ground := Ground.guard }], guard := some (45, false) }) (v := ?vr46) rfl (by kernel_rfl) (by kernel_rfl) (by kernel_rfl) (fun _ _ _ h => h) (Or.inl ⟨by rfl, ?hyr46⟩) hHeld ?_
  case hyr46 => (intro w hSw; (try dsimp only at hSw); go_simp <;> with_reducible rfl)
  try simp only [Act.put, List.setIfInBounds_toArray, List.set_cons_zero, List.set_cons_succ]
  refine wpAnyH_take (i := 47) (oi := { dst := some 121, op := Op.move (Operand.tmp 19), type := 3, pos := "laws.go:522", after := #[{ on := 45, ground := Ground.guard }], guard := some (45, false) }) (v := ?vr47) rfl (by kernel_rfl) (by kernel_rfl) (by kernel_rfl) (fun _ _ _ h => h) (Or.inl ⟨by rfl, ?hyr47⟩) hHeld ?_
  case hyr47 => (intro w hSw; (try dsimp only at hSw); go_simp <;> with_reducible rfl)
  try simp only [Act.put, List.setIfInBounds_toArray, List.set_cons_zero, List.set_cons_succ]
  refine wpAnyH_take (i := 48) (oi := { dst := some 122, op := Op.move (Operand.tmp 20), type := 3, pos := "laws.go:522", after := #[{ on := 45, ground := Ground.guard }], guard := some (45, false) }) (v := ?vr48) rfl (by kernel_rfl) (by kernel_rfl) (by kernel_rfl) (fun _ _ _ h => h) (Or.inl ⟨by rfl, ?hyr48⟩) hHeld ?_
  case hyr48 => (intro w hSw; (try dsimp only at hSw); go_simp <;> with_reducible rfl)
  try simp only [Act.put, List.setIfInBounds_toArray, List.set_cons_zero, List.set_cons_succ]
  refine wpAnyH_take (i := 50) (oi := { dst := some 124, op := Op.load 27 (Operand.tmp 18), type := 27, pos := "laws.go:522", after := #[{ on := 45, ground := Ground.guard }], guard := some (45, false) }) (v := ?vr50) rfl (by kernel_rfl) (by kernel_rfl) (by kernel_rfl) (fun _ _ _ h => h) (Or.inl ⟨by rfl, ?hyr50⟩) hHeld ?_
  case hyr50 => (intro w hSw; (try dsimp only at hSw); go_simp <;> with_reducible rfl)
  try simp only [Act.put, List.setIfInBounds_toArray, List.set_cons_zero, List.set_cons_succ]
  refine wpAnyH_take (i := 51) (oi := { dst := some 125, op := Op.move (Operand.tmp 19), type := 3, pos := "laws.go:522", after := #[{ on := 45, ground := Ground.guard }], guard := some (45, false) }) (v := ?vr51) rfl (by kernel_rfl) (by kernel_rfl) (by kernel_rfl) (fun _ _ _ h => h) (Or.inl ⟨by rfl, ?hyr51⟩) hHeld ?_
  case hyr51 => (intro w hSw; (try dsimp only at hSw); go_simp <;> with_reducible rfl)
  try simp only [Act.put, List.setIfInBounds_toArray, List.set_cons_zero, List.set_cons_succ]
  refine wpAnyH_take (i := 52) (oi := { dst := some 126, op := Op.move (Operand.tmp 20), type := 3, pos := "laws.go:522", after := #[{ on := 45, ground := Ground.guard }], guard := some (45, false) }) (v := ?vr52) rfl (by kernel_rfl) (by kernel_rfl) (by kernel_rfl) (fun _ _ _ h => h) (Or.inl ⟨by rfl, ?hyr52⟩) hHeld ?_
  case hyr52 => (intro w hSw; (try dsimp only at hSw); go_simp <;> with_reducible rfl)
  try simp only [Act.put, List.setIfInBounds_toArray, List.set_cons_zero, List.set_cons_succ]
  refine wpAnyH_ready (rs := [49]) (by kernel_rfl) (by simp) ?_
  refine AllReadyH.cons (o := { dst := some 123, op := Op.call { callee := Callee.value (Operand.func 26), args := #[Operand.tmp 120, Operand.tmp 121, Operand.tmp 122], argTypes := #[27, 3, 3] }, type := 3, pos := "laws.go:522", after := #[{ on := 46, ground := Ground.data }, { on := 47, ground := Ground.data }, { on := 48, ground := Ground.data }, { on := 45, ground := Ground.chain }, { on := 45, ground := Ground.guard }], guard := some (45, false) }) rfl (fun K hK => ?_) AllReadyH.nil
  go_simp
  refine (C49.out _ hHeld.1).mono ?_
  rintro r wvr49 ⟨rfl, hy⟩
  have hz : Below z9.heap.size z9 wvr49 := grow_on hHeld.1 hy
  clear hHeld hy
  refine hK.out _ _ (HS.out _ hz) (fun hHeld => ?_)
  clear hK K hz
  try simp only [Act.put, List.setIfInBounds_toArray, List.set_cons_zero, List.set_cons_succ]
  refine wpAnyH_ready (rs := [53]) (by kernel_rfl) (by simp) ?_
  refine AllReadyH.cons (o := { dst := some 127, op := Op.call { callee := Callee.value (Operand.func 27), args := #[Operand.tmp 124, Operand.tmp 125, Operand.tmp 126], argTypes := #[27, 3, 3] }, type := 3, pos := "laws.go:522", after := #[{ on := 50, ground := Ground.data }, { on := 51, ground := Ground.data }, { on := 52, ground := Ground.data }, { on := 49, ground := Ground.chain }, { on := 45, ground := Ground.guard }], guard := some (45, false) }) rfl (fun K hK => ?_) AllReadyH.nil
  go_simp
  refine (C53.out _ hHeld.1).mono ?_
  rintro r wvr53 ⟨rfl, hy⟩
  have hz : Below z9.heap.size z9 wvr53 := grow_on hHeld.1 hy
  clear hHeld hy
  refine hK.out _ _ (HS.out _ hz) (fun hHeld => ?_)
  clear hK K hz
  try simp only [Act.put, List.setIfInBounds_toArray, List.set_cons_zero, List.set_cons_succ]
  refine wpAnyH_take (i := 54) (oi := { dst := some 128, op := Op.binOp BinOp.neq 3 (Operand.tmp 123) (Operand.tmp 127) 3, type := 4, pos := "laws.go:522", after := #[{ on := 49, ground := Ground.data }, { on := 53, ground := Ground.data }, { on := 45, ground := Ground.guard }], guard := some (45, false) }) (v := ?vr54) rfl (by kernel_rfl) (by kernel_rfl) (by kernel_rfl) (fun _ _ _ h => h) (Or.inl ⟨by rfl, ?hyr54⟩) hHeld ?_
  case hyr54 => (intro w hSw; (try dsimp only at hSw); go_simp <;> with_reducible rfl)
  try simp only [Act.put, List.setIfInBounds_toArray, List.set_cons_zero, List.set_cons_succ]
  refine wpAnyH_take (i := 55) (oi := { dst := some 129, op := Op.pick (Operand.tmp 119) (Operand.const (Value.bool true)) (Operand.tmp 128), type := 4, pos := "laws.go:522", after := #[{ on := 45, ground := Ground.data }, { on := 54, ground := Ground.data }], guard := none }) (v := ?vr55) rfl (by kernel_rfl) (by kernel_rfl) (by kernel_rfl) (fun _ _ _ h => h) (Or.inl ⟨by rfl, ?hyr55⟩) hHeld ?_
  case hyr55 => (intro w hSw; (try dsimp only at hSw); go_simp <;> with_reducible rfl)
  try simp only [Act.put, List.setIfInBounds_toArray, List.set_cons_zero, List.set_cons_succ]
  refine wpAnyH_done (by kernel_rfl) ?_ _
  have hb := hHeld.1
  clear hHeld HS HK3 C3 C4 C9 C15 C21 C24 C30 C33 C39 C42 C49 C53 eq1 eq2 eq3 eq4
  clear Ky_z9
  clear Kz_z9
  clear Rz_z9
  clear Kq_z9
  clear Kr_z9
  clear Rr_z9
  clear KX_z9
  clear D1_z9
  clear D5_z9
  clear DB_z9
  clear D6_z9
  clear D7_z9
  clear D8_z9
  clear D9_z9
  clear D0_z9
  clear bZ_z9
  clear bC_z9
  clear b5_z9
  clear b6_z9
  clear b7_z9
  clear b8_z9
  clear b9_z9
  clear b0_z9
  have B_wvr53 : Hid (Below w.heap.size w wvr53) := grow_on B_z9.out hb
  have DX_wvr53 : Hid (DAl wvr53 ga x) := DX_z9.out.below hb
  have b1_wvr53 : Hid (Blk wvr53 w1.heap.size #[.int .i64 n1, .slice (some ⟨K1, 0, none⟩) key1.length k1, .int .i64 b1, .int .i64 t1, .slice (some ⟨M1, 0, none⟩) P1.length c1] 27) := b1_z9.out.grow hb
  have bA_wvr53 : Hid (Blk wvr53 (w1.heap.size + 1) #[.slice (some ⟨ga, 0, none⟩) x.l.length ca, .int .i64 x.s, .int .i64 x.e, .string x.n] 29) := bA_z9.out.grow hb
  have RX_wvr53 : Hid (RdN wvr53 (some ⟨Mx, ox, none⟩) JL) := RX_z9.out.below hb
  have bX_wvr53 : Hid (Blk wvr53 w2.heap.size #[.int .i64 n1, .slice (some ⟨Kx, 0, none⟩) key1.length kx, .int .i64 b1, .int .i64 t1, .slice (some ⟨Mx, ox, none⟩) JL.length cx] 27) := bX_z9.out.grow hb
  have D2_wvr53 : Hid (RG wvr53 K2 M2 c2 key2 P2) := D2_z9.out.below hb
  have b2_wvr53 : Hid (Blk wvr53 w3.heap.size #[.int .i64 n2, .slice (some ⟨K2, 0, none⟩) key2.length k2, .int .i64 b2, .int .i64 t2, .slice (some ⟨M2, 0, none⟩) P2.length c2] 27) := b2_z9.out.grow hb
  have Ry_wvr53 : Hid (RdN wvr53 (some ⟨My, oy, none⟩) FL) := Ry_z9.out.below hb
  have Rq_wvr53 : Hid (RdN wvr53 (some ⟨Mq, oq, none⟩) P2) := Rq_z9.out.below hb
  have bY_wvr53 : Hid (Blk wvr53 w4.heap.size #[.int .i64 n2, .slice (some ⟨Ky, 0, none⟩) key2.length ky, .int .i64 b2, .int .i64 now, .slice (some ⟨My, oy, none⟩) FL.length cy] 27) := bY_z9.out.grow hb
  have bB_wvr53 : Hid (Blk wvr53 (w4.heap.size + 1) #[.int .i64 n2, .slice (some ⟨Kq, 0, none⟩) key2.length kq, .int .i64 now, .slice (some ⟨Mq, oq, none⟩) P2.length cq] 36) := bB_z9.out.grow hb
  clear B_z9 DX_z9 b1_z9 bA_z9 RX_z9 bX_z9 D2_z9 b2_z9 Ry_z9 Rq_z9 bY_z9 bB_z9
  clear hb HJ HB2
  go_wp2
  go_loopw [21, 22] (fun nn ii w' => ∃ (i m : Nat), i ≤ JL.length ∧ ii = .int .i64 i ∧ nn = .int .i64 m ∧ m ≤ i ∧ (jx < i → 1 ≤ m) ∧ Below wvr53.heap.size wvr53 w') (fun _ ii _ => JL.length - (intOf ii).toNat)
  case atStart => exact ⟨0, 0, by omega, rfl, rfl, by omega, by omega, Below.refl _ _⟩
  case round =>
    obtain ⟨i, m, hi, rfl, rfl, hm, hj, hb⟩ := hrel
    have HBr : Hid (Below wvr53.heap.size wvr53 wr) := hb
    have HM : Hid (m ≤ i ∧ (jx < i → 1 ≤ m)) := ⟨hm, hj⟩
    clear hb hm hj
    by_cases hlt : i < JL.length
    ·
      have hib : i < 1000 := by have := FJ.out.2.1; omega
      have hmb : m < 1000 := by have := HM.out.1; omega
      have hlt' : (i : Int) < (JL.length : Int) := by omega
      have hi0 : (0 : Int) ≤ (i : Int) := by omega
      obtain ⟨bb, oo, ee, hbb, gq, oq, cpq, hat⟩ := (RX_wvr53.out.below HBr.out).get (i := i) hlt
      cases ee
      obtain ⟨v, hv⟩ : ∃ v, Alm.sameB (nthP JL i).l (nthP JL i).s (nthP JL i).e (nthP JL i).n x.l x.s x.e x.n = v := ⟨_, rfl⟩
      have HV : Hid (i = jx → v = true) := fun e => by rw [← hv, e, HX.out.2]; exact Alm.same_self _ _ _ _
      have HCA : ∀ q : Grown wr, Hid (Calls Try.prog 28 #[.agg #[.slice (some ⟨gq, oq, none⟩) (nthP JL i).l.length cpq, .int .i64 (nthP JL i).s, .int .i64 (nthP JL i).e, .string (nthP JL i).n], .agg #[.slice (some ⟨ga, 0, none⟩) x.l.length ca, .int .i64 x.s, .int .i64 x.e, .string x.n]] q.out fun e w' => e = .returned (.bool v) ∧ Below q.out.heap.size q.out w') := fun q => by
        have h := implSameA_any (some ⟨gq, oq, none⟩) (some ⟨ga, 0, none⟩) cpq ca (nthP JL i).l x.l (nthP JL i).s (nthP JL i).e x.s x.e (nthP JL i).n x.n q.out (hat.reads.below q.bel) (DX_wvr53.out.1.below (grow_on HBr.out q.bel)) (FJ.out.1 _ (nthP_mem hlt)).1.len FX.out.1.len
        rw [hv] at h
        exact h
      have cbX0 : wr.cell? ⟨w2.heap.size, 0, none⟩ = some (.int .i64 n1) := (bX_wvr53.out.grow HBr.out).cell 0
      have cbX1 : wr.cell? ⟨w2.heap.size, 1, none⟩ = some (.slice (some ⟨Kx, 0, none⟩) key1.length kx) := (bX_wvr53.out.grow HBr.out).cell 1
      have cbX2 : wr.cell? ⟨w2.heap.size, 2, none⟩ = some (.int .i64 b1) := (bX_wvr53.out.grow HBr.out).cell 2
      have cbX3 : wr.cell? ⟨w2.heap.size, 3, none⟩ = some (.int .i64 t1) := (bX_wvr53.out.grow HBr.out).cell 3
      have cbX4 : wr.cell? ⟨w2.heap.size, 4, none⟩ = some (.slice (some ⟨Mx, ox, none⟩) JL.length cx) := (bX_wvr53.out.grow HBr.out).cell 4
      go_upto_region 18 with fail
      clear cbX0 cbX1 cbX2 cbX3 cbX4
      have x0 := fun q : Grown wr => q.cell hbb hat.c0
      have x1 := fun q : Grown wr => q.cell hbb hat.c1
      have x2 := fun q : Grown wr => q.cell hbb hat.c2
      have x3 := fun q : Grown wr => q.cell hbb hat.c3
      have lbX := (bX_wvr53.out.grow HBr.out).lt
      have qbX0 := fun q : Grown wr => q.cell lbX ((bX_wvr53.out.grow HBr.out).cell 0)
      have qbX1 := fun q : Grown wr => q.cell lbX ((bX_wvr53.out.grow HBr.out).cell 1)
      have qbX2 := fun q : Grown wr => q.cell lbX ((bX_wvr53.out.grow HBr.out).cell 2)
      have qbX3 := fun q : Grown wr => q.cell lbX ((bX_wvr53.out.grow HBr.out).cell 3)
      have qbX4 := fun q : Grown wr => q.cell lbX ((bX_wvr53.out.grow HBr.out).cell 4)
      have lbA := (bA_wvr53.out.grow HBr.out).lt
      have qbA0 := fun q : Grown wr => q.cell lbA ((bA_wvr53.out.grow HBr.out).cell 0)
      have qbA1 := fun q : Grown wr => q.cell lbA ((bA_wvr53.out.grow HBr.out).cell 1)
      have qbA2 := fun q : Grown wr => q.cell lbA ((bA_wvr53.out.grow HBr.out).cell 2)
      have qbA3 := fun q : Grown wr => q.cell lbA ((bA_wvr53.out.grow HBr.out).cell 3)
      have hne := Grown.some wr
      clear hv
      refine wp_over (z := wr) (by kernel_rfl) (by kernel_rfl) (Below.refl _ _) ?_
      repeat (go_big_quiet_step (first | (go_at_call 28; exact call_over (HCA _).out)))
      refine wpQuiet_nil ?_
      intro w2 hw2
      have HB2 : Hid (Below wvr53.heap.size wvr53 w2) := grow_on HBr.out (over_bel hw2)
      clear hw2 hne hat HCA x0 x1 x2 x3 lbX qbX0 qbX1 qbX2 qbX3 qbX4 lbA qbA0 qbA1 qbA2 qbA3 hbb
      cases v with
      | true =>
        have hw : IntKind.i64.wrap ((m : Int) + 1) = (m : Int) + 1 := by rw [IntKind.wrap_i64]; have := HM.out.1; have := FJ.out.2.1; omega
        go_wp2
        go_roundw
        case rel => exact ⟨i + 1, m + 1, by omega, by go_num, by go_num, by have := HM.out.1; omega, by omega, HB2.out⟩
        case measure => simp [intOf]; omega
      | false =>
        go_wp2
        go_roundw
        case rel => exact ⟨i + 1, m, by omega, by go_num, rfl, by have := HM.out.1; omega, (fun h => by
          have h1 := HM.out.2
          have h2 := HV.out
          rcases Nat.lt_or_ge jx i with h3 | h3
          · exact h1 h3
          · have e := h2 (by omega)
            cases e), HB2.out⟩
        case measure => simp [intOf]; omega
    ·
      have hge : ¬ (i : Int) < (JL.length : Int) := by omega
      have HM1 : Hid (1 ≤ m ∧ m ≤ 10) := ⟨HM.out.2 (by have := HX.out.1; omega), by have := HM.out.1; have := FJ.out.2.1; omega⟩
      clear HM
      have cbX0 : wr.cell? ⟨w2.heap.size, 0, none⟩ = some (.int .i64 n1) := (bX_wvr53.out.grow HBr.out).cell 0
      have cbX1 : wr.cell? ⟨w2.heap.size, 1, none⟩ = some (.slice (some ⟨Kx, 0, none⟩) key1.length kx) := (bX_wvr53.out.grow HBr.out).cell 1
      have cbX2 : wr.cell? ⟨w2.heap.size, 2, none⟩ = some (.int .i64 b1) := (bX_wvr53.out.grow HBr.out).cell 2
      have cbX3 : wr.cell? ⟨w2.heap.size, 3, none⟩ = some (.int .i64 t1) := (bX_wvr53.out.grow HBr.out).cell 3
      have cbX4 : wr.cell? ⟨w2.heap.size, 4, none⟩ = some (.slice (some ⟨Mx, ox, none⟩) JL.length cx) := (bX_wvr53.out.grow HBr.out).cell 4
      go_wp2_with fail
      clear cbX0 cbX1 cbX2 cbX3 cbX4 hge hi
      go_loopw [23] (fun ii w' => ∃ (i : Nat), i ≤ FL.length ∧ ii = .int .i64 i ∧ Below wvr53.heap.size wvr53 w') (fun ii _ => FL.length - (intOf ii).toNat)
      case atStart => exact ⟨0, by omega, rfl, HBr.out⟩
      case round =>
        clear HBr
        obtain ⟨i, hi, rfl, hb⟩ := hrel
        have HBr : Hid (Below wvr53.heap.size wvr53 wr) := hb
        clear hb
        by_cases hlt : i < FL.length
        ·
          have hib : i < 1000 := by have := FF.out.2.1; omega
          have hlt' : (i : Int) < (FL.length : Int) := by omega
          have hi0 : (0 : Int) ≤ (i : Int) := by omega
          obtain ⟨bb, oo, ee, hbb, gq, oq, cpq, hat⟩ := (Ry_wvr53.out.below HBr.out).get (i := i) hlt
          cases ee
          have cbY0 : wr.cell? ⟨w4.heap.size, 0, none⟩ = some (.int .i64 n2) := (bY_wvr53.out.grow HBr.out).cell 0
          have cbY1 : wr.cell? ⟨w4.heap.size, 1, none⟩ = some (.slice (some ⟨Ky, 0, none⟩) key2.length ky) := (bY_wvr53.out.grow HBr.out).cell 1
          have cbY2 : wr.cell? ⟨w4.heap.size, 2, none⟩ = some (.int .i64 b2) := (bY_wvr53.out.grow HBr.out).cell 2
          have cbY3 : wr.cell? ⟨w4.heap.size, 3, none⟩ = some (.int .i64 now) := (bY_wvr53.out.grow HBr.out).cell 3
          have cbY4 : wr.cell? ⟨w4.heap.size, 4, none⟩ = some (.slice (some ⟨My, oy, none⟩) FL.length cy) := (bY_wvr53.out.grow HBr.out).cell 4
          have x0 := hat.c0
          have x1 := hat.c1
          have x2 := hat.c2
          have x3 := hat.c3
          go_wp2_with fail
          refine (implOver_any _ _ _ _ now _).mono ?_
          rintro e w2 ⟨rfl, hb⟩
          have HB2 : Hid (Below wvr53.heap.size wvr53 w2) := grow_on HBr.out hb
          clear hb hat hbb cbY0 cbY1 cbY2 cbY3 cbY4 x0 x1 x2 x3
          rw [FF.out.2.2 i hlt]
          go_wp2
          go_roundw
          case rel => exact ⟨i + 1, by omega, by go_num, HB2.out⟩
          case measure => simp [intOf]; omega
        ·
          have hge : ¬ (i : Int) < (FL.length : Int) := by omega
          have cbY0 : wr.cell? ⟨w4.heap.size, 0, none⟩ = some (.int .i64 n2) := (bY_wvr53.out.grow HBr.out).cell 0
          have cbY1 : wr.cell? ⟨w4.heap.size, 1, none⟩ = some (.slice (some ⟨Ky, 0, none⟩) key2.length ky) := (bY_wvr53.out.grow HBr.out).cell 1
          have cbY2 : wr.cell? ⟨w4.heap.size, 2, none⟩ = some (.int .i64 b2) := (bY_wvr53.out.grow HBr.out).cell 2
          have cbY3 : wr.cell? ⟨w4.heap.size, 3, none⟩ = some (.int .i64 now) := (bY_wvr53.out.grow HBr.out).cell 3
          have cbY4 : wr.cell? ⟨w4.heap.size, 4, none⟩ = some (.slice (some ⟨My, oy, none⟩) FL.length cy) := (bY_wvr53.out.grow HBr.out).cell 4
          go_wp2_with fail
          clear cbY0 cbY1 cbY2 cbY3 cbY4 hge hi
          go_loopw [24, 25] (fun oo ii w' => ∃ (i : Nat), i ≤ P2.length ∧ ii = .int .i64 i ∧ oo = .int .i64 ((goneTo P2 now i).length : Nat) ∧ Below wvr53.heap.size wvr53 w') (fun _ ii _ => P2.length - (intOf ii).toNat)
          case atStart => exact ⟨0, by omega, rfl, by simp [goneTo], HBr.out⟩
          case round =>
            clear HBr
            obtain ⟨i, hi, rfl, rfl, hb⟩ := hrel
            have HBr : Hid (Below wvr53.heap.size wvr53 wr) := hb
            clear hb
            by_cases hlt : i < P2.length
            ·
              have hib : i < 1000 := by have := F2.out.2.1; omega
              have hlt' : (i : Int) < (P2.length : Int) := by omega
              have hi0 : (0 : Int) ≤ (i : Int) := by omega
              have HG : Hid (goneTo P2 now (i + 1) = goneTo P2 now i ++ (if overB (nthP P2 i).e now = true then [nthP P2 i] else [])) := gone_up hlt
              have hgl : (goneTo P2 now i).length ≤ i := by unfold goneTo; exact Nat.le_trans (List.length_filter_le _ _) (by simp; omega)
              have Dp : Hid (RdN wvr53 (some ⟨M2, 0, none⟩) P2) := D2_wvr53.out.pr
              obtain ⟨bb, oo, ee, hbb, gq, oq, cpq, hat⟩ := (Dp.out.below HBr.out).get (i := i) hlt
              cases ee
              clear Dp
              have cb20 : wr.cell? ⟨w3.heap.size, 0, none⟩ = some (.int .i64 n2) := (b2_wvr53.out.grow HBr.out).cell 0
              have cb21 : wr.cell? ⟨w3.heap.size, 1, none⟩ = some (.slice (some ⟨K2, 0, none⟩) key2.length k2) := (b2_wvr53.out.grow HBr.out).cell 1
              have cb22 : wr.cell? ⟨w3.heap.size, 2, none⟩ = some (.int .i64 b2) := (b2_wvr53.out.grow HBr.out).cell 2
              have cb23 : wr.cell? ⟨w3.heap.size, 3, none⟩ = some (.int .i64 t2) := (b2_wvr53.out.grow HBr.out).cell 3
              have cb24 : wr.cell? ⟨w3.heap.size, 4, none⟩ = some (.slice (some ⟨M2, 0, none⟩) P2.length c2) := (b2_wvr53.out.grow HBr.out).cell 4
              have x0 := hat.c0
              rw [Nat.zero_add] at x0
              have x1 := hat.c1
              rw [Nat.zero_add] at x1
              have x2 := hat.c2
              rw [Nat.zero_add] at x2
              have x3 := hat.c3
              rw [Nat.zero_add] at x3
              go_wp2_with fail
              refine (implOver_any _ _ _ _ now _).mono ?_
              rintro e w2 ⟨rfl, hb⟩
              have HB2 : Hid (Below wvr53.heap.size wvr53 w2) := grow_on HBr.out hb
              clear hb hat hbb cb20 cb21 cb22 cb23 cb24 x0 x1 x2 x3
              cases ho : overB (nthP P2 i).e now with
              | true =>
                have HL2 : Hid ((goneTo P2 now (i + 1)).length = (goneTo P2 now i).length + 1) := by unfold Hid; rw [HG.out, ho]; simp
                generalize (goneTo P2 now i).length = gl at *
                have hw : IntKind.i64.wrap ((gl : Int) + 1) = (gl : Int) + 1 := by rw [IntKind.wrap_i64]; have := F2.out.2.1; omega
                go_wp2
                go_roundw
                case rel => exact ⟨i + 1, by omega, by go_num, by (rw [HL2.out]; try go_num), HB2.out⟩
                case measure => simp [intOf]; omega
              | false =>
                have HL2 : Hid ((goneTo P2 now (i + 1)).length = (goneTo P2 now i).length) := by unfold Hid; rw [HG.out, ho]; simp
                go_wp2
                go_roundw
                case rel => exact ⟨i + 1, by omega, by go_num, by rw [HL2.out], HB2.out⟩
                case measure => simp [intOf]; omega
            ·
              have hge : ¬ (i : Int) < (P2.length : Int) := by omega
              have ei : i = P2.length := by omega
              have HL3 : Hid (FL.length + (goneTo P2 now i).length = P2.length) := by unfold Hid; rw [← HF.out, ei, drop_len, List.take_length]
              clear ei
              generalize (goneTo P2 now i).length = gl at *
              have cb20 : wr.cell? ⟨w3.heap.size, 0, none⟩ = some (.int .i64 n2) := (b2_wvr53.out.grow HBr.out).cell 0
              have cb21 : wr.cell? ⟨w3.heap.size, 1, none⟩ = some (.slice (some ⟨K2, 0, none⟩) key2.length k2) := (b2_wvr53.out.grow HBr.out).cell 1
              have cb22 : wr.cell? ⟨w3.heap.size, 2, none⟩ = some (.int .i64 b2) := (b2_wvr53.out.grow HBr.out).cell 2
              have cb23 : wr.cell? ⟨w3.heap.size, 3, none⟩ = some (.int .i64 t2) := (b2_wvr53.out.grow HBr.out).cell 3
              have cb24 : wr.cell? ⟨w3.heap.size, 4, none⟩ = some (.slice (some ⟨M2, 0, none⟩) P2.length c2) := (b2_wvr53.out.grow HBr.out).cell 4
              have hm1 : ((m : Int) ≥ 1) := by have := HM1.out.1; omega
              have hw1 : IntKind.i64.wrap ((FL.length : Int) + (gl : Int)) = (FL.length : Int) + (gl : Int) := by rw [IntKind.wrap_i64]; have := HL3.out; have := F2.out.2.1; omega
              have he1 : (((FL.length : Int) + (gl : Int)) == (P2.length : Int)) = true := by have := HL3.out; simp; omega
              have hw2 : IntKind.i64.wrap ((P1.length : Int) + 1) = (P1.length : Int) + 1 := by rw [IntKind.wrap_i64]; have := L1.out.1; omega
              have hl1 : ((JL.length : Int) ≤ (P1.length : Int) + 1) := by have := FJ.out.2.2; omega
              have hnn : (now == now) = true := by simp
              have DX_wr : Hid (DAl wr ga x) := DX_wvr53.out.below HBr.out
              have b1_wr : Hid (Blk wr w1.heap.size #[.int .i64 n1, .slice (some ⟨K1, 0, none⟩) key1.length k1, .int .i64 b1, .int .i64 t1, .slice (some ⟨M1, 0, none⟩) P1.length c1] 27) := b1_wvr53.out.grow HBr.out
              have bA_wr : Hid (Blk wr (w1.heap.size + 1) #[.slice (some ⟨ga, 0, none⟩) x.l.length ca, .int .i64 x.s, .int .i64 x.e, .string x.n] 29) := bA_wvr53.out.grow HBr.out
              have RX_wr : Hid (RdN wr (some ⟨Mx, ox, none⟩) JL) := RX_wvr53.out.below HBr.out
              have bX_wr : Hid (Blk wr w2.heap.size #[.int .i64 n1, .slice (some ⟨Kx, 0, none⟩) key1.length kx, .int .i64 b1, .int .i64 t1, .slice (some ⟨Mx, ox, none⟩) JL.length cx] 27) := bX_wvr53.out.grow HBr.out
              have D2_wr : Hid (RG wr K2 M2 c2 key2 P2) := D2_wvr53.out.below HBr.out
              have b2_wr : Hid (Blk wr w3.heap.size #[.int .i64 n2, .slice (some ⟨K2, 0, none⟩) key2.length k2, .int .i64 b2, .int .i64 t2, .slice (some ⟨M2, 0, none⟩) P2.length c2] 27) := b2_wvr53.out.grow HBr.out
              have Ry_wr : Hid (RdN wr (some ⟨My, oy, none⟩) FL) := Ry_wvr53.out.below HBr.out
              have Rq_wr : Hid (RdN wr (some ⟨Mq, oq, none⟩) P2) := Rq_wvr53.out.below HBr.out
              have bY_wr : Hid (Blk wr w4.heap.size #[.int .i64 n2, .slice (some ⟨Ky, 0, none⟩) key2.length ky, .int .i64 b2, .int .i64 now, .slice (some ⟨My, oy, none⟩) FL.length cy] 27) := bY_wvr53.out.grow HBr.out
              have bB_wr : Hid (Blk wr (w4.heap.size + 1) #[.int .i64 n2, .slice (some ⟨Kq, 0, none⟩) key2.length kq, .int .i64 now, .slice (some ⟨Mq, oq, none⟩) P2.length cq] 36) := bB_wvr53.out.grow HBr.out
              have CL : Hid (∀ u, Below wr.heap.size wr u → Calls Try.prog 30 #[.slice (some ⟨Mq, oq, none⟩) P2.length cq, .slice (some ⟨M2, 0, none⟩) P2.length c2] u fun e w' => e = .returned (.bool true) ∧ Below u.heap.size u w') := fun u hu => sameListZ (Rq_wr.out.rd.below hu) (D2_wr.out.pr.rd.below hu) (by have := F2.out.2.1; omega) (finesP F2.out.1)
              clear cb20 cb21 cb22 cb23 cb24
              have B_wr : Hid (Below w.heap.size w wr) := grow_on B_wvr53.out HBr.out
              have cbB0 : wr.cell? ⟨(w4.heap.size + 1), 0, none⟩ = some (.int .i64 n2) := bB_wr.out.cell 0
              have cbB1 : wr.cell? ⟨(w4.heap.size + 1), 1, none⟩ = some (.slice (some ⟨Kq, 0, none⟩) key2.length kq) := bB_wr.out.cell 1
              have cbB2 : wr.cell? ⟨(w4.heap.size + 1), 2, none⟩ = some (.int .i64 now) := bB_wr.out.cell 2
              have cbB3 : wr.cell? ⟨(w4.heap.size + 1), 3, none⟩ = some (.slice (some ⟨Mq, oq, none⟩) P2.length cq) := bB_wr.out.cell 3
              have cb20 : wr.cell? ⟨w3.heap.size, 0, none⟩ = some (.int .i64 n2) := b2_wr.out.cell 0
              have cb21 : wr.cell? ⟨w3.heap.size, 1, none⟩ = some (.slice (some ⟨K2, 0, none⟩) key2.length k2) := b2_wr.out.cell 1
              have cb22 : wr.cell? ⟨w3.heap.size, 2, none⟩ = some (.int .i64 b2) := b2_wr.out.cell 2
              have cb23 : wr.cell? ⟨w3.heap.size, 3, none⟩ = some (.int .i64 t2) := b2_wr.out.cell 3
              have cb24 : wr.cell? ⟨w3.heap.size, 4, none⟩ = some (.slice (some ⟨M2, 0, none⟩) P2.length c2) := b2_wr.out.cell 4
              have cbY0 : wr.cell? ⟨w4.heap.size, 0, none⟩ = some (.int .i64 n2) := bY_wr.out.cell 0
              have cbY1 : wr.cell? ⟨w4.heap.size, 1, none⟩ = some (.slice (some ⟨Ky, 0, none⟩) key2.length ky) := bY_wr.out.cell 1
              have cbY2 : wr.cell? ⟨w4.heap.size, 2, none⟩ = some (.int .i64 b2) := bY_wr.out.cell 2
              have cbY3 : wr.cell? ⟨w4.heap.size, 3, none⟩ = some (.int .i64 now) := bY_wr.out.cell 3
              have cbY4 : wr.cell? ⟨w4.heap.size, 4, none⟩ = some (.slice (some ⟨My, oy, none⟩) FL.length cy) := bY_wr.out.cell 4
              have cbX0 : wr.cell? ⟨w2.heap.size, 0, none⟩ = some (.int .i64 n1) := bX_wr.out.cell 0
              have cbX1 : wr.cell? ⟨w2.heap.size, 1, none⟩ = some (.slice (some ⟨Kx, 0, none⟩) key1.length kx) := bX_wr.out.cell 1
              have cbX2 : wr.cell? ⟨w2.heap.size, 2, none⟩ = some (.int .i64 b1) := bX_wr.out.cell 2
              have cbX3 : wr.cell? ⟨w2.heap.size, 3, none⟩ = some (.int .i64 t1) := bX_wr.out.cell 3
              have cbX4 : wr.cell? ⟨w2.heap.size, 4, none⟩ = some (.slice (some ⟨Mx, ox, none⟩) JL.length cx) := bX_wr.out.cell 4
              have cb10 : wr.cell? ⟨w1.heap.size, 0, none⟩ = some (.int .i64 n1) := b1_wr.out.cell 0
              have cb11 : wr.cell? ⟨w1.heap.size, 1, none⟩ = some (.slice (some ⟨K1, 0, none⟩) key1.length k1) := b1_wr.out.cell 1
              have cb12 : wr.cell? ⟨w1.heap.size, 2, none⟩ = some (.int .i64 b1) := b1_wr.out.cell 2
              have cb13 : wr.cell? ⟨w1.heap.size, 3, none⟩ = some (.int .i64 t1) := b1_wr.out.cell 3
              have cb14 : wr.cell? ⟨w1.heap.size, 4, none⟩ = some (.slice (some ⟨M1, 0, none⟩) P1.length c1) := b1_wr.out.cell 4
              go_wp2_with fail
              refine (CL.out _ (Below.refl _ _)).mono ?_
              rintro e wl ⟨rfl, hb⟩
              clear hge hi CL cbB0 cbB1 cbB2 cbB3 cb20 cb21 cb22 cb23 cb24 cbY0 cbY1 cbY2 cbY3 cbY4 cbX0 cbX1 cbX2 cbX3 cbX4 cb10 cb11 cb12 cb13 cb14
              have B_wl : Hid (Below w.heap.size w wl) := grow_on B_wr.out hb
              have bB_wl : Hid (Blk wl (w4.heap.size + 1) #[.int .i64 n2, .slice (some ⟨Kq, 0, none⟩) key2.length kq, .int .i64 now, .slice (some ⟨Mq, oq, none⟩) P2.length cq] 36) := bB_wr.out.grow hb
              have b2_wl : Hid (Blk wl w3.heap.size #[.int .i64 n2, .slice (some ⟨K2, 0, none⟩) key2.length k2, .int .i64 b2, .int .i64 t2, .slice (some ⟨M2, 0, none⟩) P2.length c2] 27) := b2_wr.out.grow hb
              have bY_wl : Hid (Blk wl w4.heap.size #[.int .i64 n2, .slice (some ⟨Ky, 0, none⟩) key2.length ky, .int .i64 b2, .int .i64 now, .slice (some ⟨My, oy, none⟩) FL.length cy] 27) := bY_wr.out.grow hb
              have bX_wl : Hid (Blk wl w2.heap.size #[.int .i64 n1, .slice (some ⟨Kx, 0, none⟩) key1.length kx, .int .i64 b1, .int .i64 t1, .slice (some ⟨Mx, ox, none⟩) JL.length cx] 27) := bX_wr.out.grow hb
              have b1_wl : Hid (Blk wl w1.heap.size #[.int .i64 n1, .slice (some ⟨K1, 0, none⟩) key1.length k1, .int .i64 b1, .int .i64 t1, .slice (some ⟨M1, 0, none⟩) P1.length c1] 27) := b1_wr.out.grow hb
              clear B_wr bB_wr b2_wr bY_wr bX_wr b1_wr
              clear hb
              have cbB0 : wl.cell? ⟨(w4.heap.size + 1), 0, none⟩ = some (.int .i64 n2) := bB_wl.out.cell 0
              have cbB1 : wl.cell? ⟨(w4.heap.size + 1), 1, none⟩ = some (.slice (some ⟨Kq, 0, none⟩) key2.length kq) := bB_wl.out.cell 1
              have cbB2 : wl.cell? ⟨(w4.heap.size + 1), 2, none⟩ = some (.int .i64 now) := bB_wl.out.cell 2
              have cbB3 : wl.cell? ⟨(w4.heap.size + 1), 3, none⟩ = some (.slice (some ⟨Mq, oq, none⟩) P2.length cq) := bB_wl.out.cell 3
              have cb20 : wl.cell? ⟨w3.heap.size, 0, none⟩ = some (.int .i64 n2) := b2_wl.out.cell 0
              have cb21 : wl.cell? ⟨w3.heap.size, 1, none⟩ = some (.slice (some ⟨K2, 0, none⟩) key2.length k2) := b2_wl.out.cell 1
              have cb22 : wl.cell? ⟨w3.heap.size, 2, none⟩ = some (.int .i64 b2) := b2_wl.out.cell 2
              have cb23 : wl.cell? ⟨w3.heap.size, 3, none⟩ = some (.int .i64 t2) := b2_wl.out.cell 3
              have cb24 : wl.cell? ⟨w3.heap.size, 4, none⟩ = some (.slice (some ⟨M2, 0, none⟩) P2.length c2) := b2_wl.out.cell 4
              have cbY0 : wl.cell? ⟨w4.heap.size, 0, none⟩ = some (.int .i64 n2) := bY_wl.out.cell 0
              have cbY1 : wl.cell? ⟨w4.heap.size, 1, none⟩ = some (.slice (some ⟨Ky, 0, none⟩) key2.length ky) := bY_wl.out.cell 1
              have cbY2 : wl.cell? ⟨w4.heap.size, 2, none⟩ = some (.int .i64 b2) := bY_wl.out.cell 2
              have cbY3 : wl.cell? ⟨w4.heap.size, 3, none⟩ = some (.int .i64 now) := bY_wl.out.cell 3
              have cbY4 : wl.cell? ⟨w4.heap.size, 4, none⟩ = some (.slice (some ⟨My, oy, none⟩) FL.length cy) := bY_wl.out.cell 4
              have cbX0 : wl.cell? ⟨w2.heap.size, 0, none⟩ = some (.int .i64 n1) := bX_wl.out.cell 0
              have cbX1 : wl.cell? ⟨w2.heap.size, 1, none⟩ = some (.slice (some ⟨Kx, 0, none⟩) key1.length kx) := bX_wl.out.cell 1
              have cbX2 : wl.cell? ⟨w2.heap.size, 2, none⟩ = some (.int .i64 b1) := bX_wl.out.cell 2
              have cbX3 : wl.cell? ⟨w2.heap.size, 3, none⟩ = some (.int .i64 t1) := bX_wl.out.cell 3
              have cbX4 : wl.cell? ⟨w2.heap.size, 4, none⟩ = some (.slice (some ⟨Mx, ox, none⟩) JL.length cx) := bX_wl.out.cell 4
              have cb10 : wl.cell? ⟨w1.heap.size, 0, none⟩ = some (.int .i64 n1) := b1_wl.out.cell 0
              have cb11 : wl.cell? ⟨w1.heap.size, 1, none⟩ = some (.slice (some ⟨K1, 0, none⟩) key1.length k1) := b1_wl.out.cell 1
              have cb12 : wl.cell? ⟨w1.heap.size, 2, none⟩ = some (.int .i64 b1) := b1_wl.out.cell 2
              have cb13 : wl.cell? ⟨w1.heap.size, 3, none⟩ = some (.int .i64 t1) := b1_wl.out.cell 3
              have cb14 : wl.cell? ⟨w1.heap.size, 4, none⟩ = some (.slice (some ⟨M1, 0, none⟩) P1.length c1) := b1_wl.out.cell 4
              go_wp2
              go_ret
              exact ⟨rfl, B_wl.out⟩

theorem walk (a : Option Addr) (len cap : Nat) (zs : List Int) (w : World) (h : IsRow .u8 w a len cap zs) :
    Calls Try.prog 3 #[.slice a len cap] w fun e w' => e = .returned (.bool true) ∧ Below w.heap.size w w' := by
  obtain ⟨hl, hb⟩ := bytes_of h
  exact core a len cap w hl hb
theorem own : ownKnob Try.prog.godebug = none := by kernel_rfl
theorem laidOut : laidOutB Try.prog = true := by kernel_rfl
set_option maxRecDepth 100000 in
theorem lifted (os : Os) (started : os.Started) (H : Type) (enc : TypeId × Value → H) :
    ReturnsInHanded {} Try.checked os 3 .any (Rows.fnJoinsSpec.pre6 enc Try.prog Try.f3 Rows.fnJoinsRow.domain false) (Rows.fnJoinsSpec.post enc Try.prog Try.f3 false true false false) := by
  refine returnsInHanded_of_change (C := Try.checked) own started (by kernel_rfl) Try.func3
    (ChangeSpec.witness6 (enc := enc) (C := Try.checked) false ⟨#[], #[.slice none 0 0], []⟩ 8 (by kernel_rfl) (by kernel_rfl) (by kernel_rfl) (by kernel_rfl)) ?_
  intro W base args ds gs before hval0 hW hcnd _
  have hval : ∀ (j : Nat) t v, Try.f3.params[j]? = some t → args[j]? = some v → Value.okWide Try.prog W .any base t v := hval0
  have hW' := hW
  obtain ⟨p, q, hA0, hV, rfl, hfz, hnd⟩ := hW
  have hA : DataW.TrodAll enc Try.prog W 0 (fun _ => true) true Try.f3.params.toList args.toList ds p := hA0
  rw [Try.params3] at hA hval
  obtain ⟨v0, vs0, d0, ds0, p0, q0, hargs, rfl, rfl, h0, r0⟩ := trodAll_cons hA
  obtain ⟨rfl, rfl, rfl⟩ := trodAll_nil r0
  obtain rfl : args = #[v0] := by cases args; simp_all
  obtain ⟨rfl, rfl⟩ := trodVars_none hV
  obtain ⟨a0, len0, cap0, rfl⟩ := okWide_slice Try.underlying22 (hval 0 22 v0 rfl rfl)
  have k0 := h0
  have lt0 : ∀ x ∈ p0, x.block < W.heap.size := by obtain ⟨m, hm⟩ := k0; exact DataW.trod_lt m _ _ _ hm
  obtain ⟨z0, w0⟩ : ∃ zs, IsRow .u8 W a0 len0 cap0 zs := by
    obtain ⟨fuel, hf⟩ := h0
    rcases open_ints Try.underlying22 Try.underlying5 (by kernel_rfl) hf with ⟨hcs, _⟩ | ⟨x, l, c, zs, hcs, _, hl, hm, hz, _, hcell, hwz⟩
    · simp [Value.cells] at hcs
      obtain ⟨rfl, rfl, rfl⟩ := hcs
      exact ⟨[], .inl ⟨rfl, rfl, rfl, rfl⟩⟩
    · simp [Value.cells] at hcs
      obtain ⟨rfl, rfl, rfl⟩ := hcs
      exact ⟨zs, .inr ⟨_, rfl, hl, hm, by simpa using hz, hcell, hwz⟩⟩
  clear hA0 hval0
  refine (walk a0 len0 cap0 z0 W w0).mono fun e W' ⟨he, bel⟩ => ?_
  subst he
  exact ⟨_, rfl, _, _, _, [], _, [], hW', trodAll_mk1 (shut_bool Try.underlying4 _), (trodAll_cons_mk (Below.trod laidOut (by kernel_rfl) (of_decide_eq_true (by kernel_rfl)) k0 bel lt0) trodAll_mk0), rfl, bel.frame _, fun h => by cases h⟩

theorem over : Rows.fnJoinsRow.holds Try.pinned (OpenSpec.ofChange Rows.fnJoinsSpec) :=
  OpenClaim.holds_of_wide 3 Try.f3 rfl rfl rfl rfl rfl rfl rfl ⟨rfl, rfl, rfl, rfl, rfl⟩ rfl rfl rfl rfl rfl (by kernel_rfl) Try.func3 (by kernel_rfl)
    (of_decide_eq_true (by kernel_rfl)) (by unfold Func.isWrapper; first | (rw [if_pos (by decide +kernel)]; kernel_rfl) | (rw [if_neg (by decide +kernel)]; exact ⟨rfl, rfl⟩))
    (fun os started H enc _ => lifted os started H enc)

end Go.Proofs.Ytekcmpjjfnijmaa.FnJoins
namespace Go.Proofs.Ytekcmpjjfnijmaa
theorem fnJoins_holds : Rows.FnJoinsSaid := FnJoins.over
#print axioms fnJoins_holds
end Go.Proofs.Ytekcmpjjfnijmaa
