/-
  PROVED: whatever the code, the law laws.FnHeapsBent returns true and leaves the code as it was: on drawn lists, heaps or not, chapter 10's functions answer as the specification has it; of two timers never each is Before the other; what is put is one more. No condition.
-/
import Derived.Test.YtcjhieknmblbbaaRows
import Derived.WalkKit
import Derived.ProofKit
import Derived.OpenShut
import Derived.ShutString
import Derived.ChangeOld
import Derived.Below
import Derived.WalkLawsBesides
import Derived.WalkSpells
import Derived.Test.YtcjhieknmblbbaaHpY
import Derived.Test.YtcjhieknmblbbaaHpQ
import Derived.Test.YtcjhieknmblbbaaHpI
import Derived.Deep.RegionHeld3
namespace Go.Proofs.Ytcjhieknmblbbaa.FnHeapsBent
open Go.ChangeShapes Go.WideShapes Go.ChangeAt Go.RowKit
open Go.ChangeMaps (open_string shut_string)
set_option linter.unusedVariables false

open Go.Proofs.Ytcjhieknmblbbaa.Tms hiding retB
open Go.Proofs.Ytcjhieknmblbbaa.Hp Go.Proofs.Ytcjhieknmblbbaa.TmO Go.Proofs.Ytcjhieknmblbbaa.TmR Go.Proofs.Ytcjhieknmblbbaa.HpS Go.Proofs.Ytcjhieknmblbbaa.HpD Go.Proofs.Ytcjhieknmblbbaa.HpT Go.Proofs.Ytcjhieknmblbbaa.HpO Go.Proofs.Ytcjhieknmblbbaa.HpI Go.Proofs.Ytcjhieknmblbbaa.HpQ Go.Proofs.Ytcjhieknmblbbaa.HpY Go.Proofs.Ytcjhieknmblbbaa.Draw Go.Proofs.Ytcjhieknmblbbaa.LawB Go.Proofs.Ytcjhieknmblbbaa.Over Go.Proofs.Ytcjhieknmblbbaa.Blk
set_option linter.unusedVariables false
theorem sameH_any (a a' : Option Addr) (cap cap' : Nat) (l : List Tm) (w : World) (hr : RdT w a l) (hr' : RdT w a' l) (hl : l.length ≤ 100) :
    Calls Try.prog 17 #[.slice a l.length cap, .slice a' l.length cap'] w fun e w' => e = .returned (.bool true) ∧ Below w.heap.size w w' :=
  (sameHeap_any a a' cap cap' l l w hr hr' (by unfold maxLen; omega) (by unfold maxLen; omega)).mono fun e w' h => ⟨h.1.trans (Tms.retB (decide_eq_true rfl)), h.2⟩
set_option maxRecDepth 100000 in
set_option maxHeartbeats 40000000 in
theorem core (a : Option Addr) (len cap : Nat) (w : World) (hl : len ≤ maxLen) (hb : Bytes w a len w.heap.size) :
    Calls Try.prog 4 #[.slice a len cap] w fun e w' => e = .returned (.bool true) ∧ Below w.heap.size w w' := by
  have HB : Hid (Bytes w a len w.heap.size) := hb
  have HL : Hid (len ≤ maxLen) := hl
  clear hb hl
  by_cases hbig : (1048576 : Int) < (len : Int)
  · have HC : Hid (Calls Try.prog 9 #[.slice a len cap] w fun e w' => e = .returned (.bool true) ∧ w' = w) := (big_any a len cap w HL.out).mono fun e w' h => ⟨h.1.trans (retB (decide_eq_true hbig)), h.2⟩
    go_enter Try.func4, Try.ntmps4
    go_wp2_with fail
    refine HC.out.mono ?_
    rintro e w1 ⟨rfl, rfl⟩
    go_wp2
    go_ret
    exact ⟨rfl, Below.refl _ _⟩
  have HC : Hid (Calls Try.prog 9 #[.slice a len cap] w fun e w' => e = .returned (.bool false) ∧ w' = w) := (big_any a len cap w HL.out).mono fun e w' h => ⟨h.1.trans (retB (decide_eq_false hbig)), h.2⟩
  go_enter Try.func4, Try.ntmps4
  go_wp2_with fail
  refine HC.out.mono ?_
  rintro e wq ⟨rfl, hw⟩
  obtain rfl := hw.symm
  clear HC hw
  have B_z0 : Hid (Below w.heap.size w w) := Below.refl _ _
  go_upto_region 3 with fail
  go_wp2_with fail
  refine (drawHeapPut_any a len cap _ HL.out HB.out).mono ?_
  rintro e w1 ⟨⟨M1, k1, l, x, rfl, h1⟩, hb⟩
  have F1 : Hid (l.length ≤ 17) := h1.2
  have NRL : Hid (OT w.heap.size w1 M1 k1 l) := h1.1
  have B_w1 : Hid (Below w.heap.size w w1) := hb
  clear B_z0
  have RL_w1 : Hid (OT w.heap.size w1 M1 k1 l) := NRL.out
  clear NRL
  clear hb
  go_upto_region 4 with fail
  generalize hz : w1.alloc (.cells #[.int .i64 x.1, .int .i64 x.2] 26) = z1
  have hbz : Below w1.heap.size w1 z1 := by rw [← hz]; exact Go.Joins.below_alloc1 w1 _
  have bT_z1 : Hid (Blk z1 w1.heap.size #[.int .i64 x.1, .int .i64 x.2] 26) := by rw [← hz]; exact (Blk.new _ _ _)
  clear hz
  have B_z1 : Hid (Below w.heap.size w z1) := grow_on B_w1.out hbz
  have RL_z1 : Hid (OT w.heap.size z1 M1 k1 l) := RL_w1.out.grow hbz
  clear B_w1 RL_w1
  clear hbz
  go_wp2_with fail
  refine (drawHeapTake_any a len cap _ HL.out (bytes_up HB.out B_z1.out)).mono ?_
  rintro e w2 ⟨⟨M2, k2, m, rfl, h2⟩, hb⟩
  have F2 : Hid (m.length ≤ 17) := h2.2
  have NRM : Hid (OT z1.heap.size w2 M2 k2 m) := h2.1
  have B_w2 : Hid (Below w.heap.size w w2) := grow_on B_z1.out hb
  have RL_w2 : Hid (OT w.heap.size w2 M1 k1 l) := RL_z1.out.grow hb
  have bT_w2 : Hid (Blk w2 w1.heap.size #[.int .i64 x.1, .int .i64 x.2] 26) := bT_z1.out.grow hb
  clear B_z1 RL_z1 bT_z1
  have RM_w2 : Hid (OT z1.heap.size w2 M2 k2 m) := NRM.out
  clear NRM
  clear hb
  go_upto_region 5 with fail
  go_wp2_with fail
  refine (implTake_any _ 0 _ m _ RM_w2.out.rd (by have := F2.out; omega) RM_w2.out.le).mono ?_
  rintro e w3 ⟨⟨M3, k3, rfl, h3⟩, hb⟩
  have NRX : Hid (OT w2.heap.size w3 M3 k3 (takeT m)) := h3
  have B_w3 : Hid (Below w.heap.size w w3) := grow_on B_w2.out hb
  have RL_w3 : Hid (OT w.heap.size w3 M1 k1 l) := RL_w2.out.grow hb
  have bT_w3 : Hid (Blk w3 w1.heap.size #[.int .i64 x.1, .int .i64 x.2] 26) := bT_w2.out.grow hb
  have RM_w3 : Hid (OT z1.heap.size w3 M2 k2 m) := RM_w2.out.grow hb
  clear B_w2 RL_w2 bT_w2 RM_w2
  have RX_w3 : Hid (OT w2.heap.size w3 M3 k3 (takeT m)) := NRX.out
  clear NRX
  clear hb
  go_upto_region 6 with fail
  generalize hz : w3.alloc (.cells #[.int .i64 (fstT m).1, .int .i64 (fstT m).2] 26) = z3
  have hbz : Below w3.heap.size w3 z3 := by rw [← hz]; exact Go.Joins.below_alloc1 w3 _
  have bA_z3 : Hid (Blk z3 w3.heap.size #[.int .i64 (fstT m).1, .int .i64 (fstT m).2] 26) := by rw [← hz]; exact (Blk.new _ _ _)
  clear hz
  have B_z3 : Hid (Below w.heap.size w z3) := grow_on B_w3.out hbz
  have RL_z3 : Hid (OT w.heap.size z3 M1 k1 l) := RL_w3.out.grow hbz
  have bT_z3 : Hid (Blk z3 w1.heap.size #[.int .i64 x.1, .int .i64 x.2] 26) := bT_w3.out.grow hbz
  have RM_z3 : Hid (OT z1.heap.size z3 M2 k2 m) := RM_w3.out.grow hbz
  have RX_z3 : Hid (OT w2.heap.size z3 M3 k3 (takeT m)) := RX_w3.out.grow hbz
  clear B_w3 RL_w3 bT_w3 RM_w3 RX_w3
  clear hbz
  go_wp2_with fail
  refine (specTake_any _ 0 _ m _ RM_z3.out.rd (by have := F2.out; omega) RM_z3.out.le).mono ?_
  rintro e w4 ⟨⟨M4, k4, rfl, h4⟩, hb⟩
  have NRY : Hid (OT z3.heap.size w4 M4 k4 (takeT m)) := h4
  have B_w4 : Hid (Below w.heap.size w w4) := grow_on B_z3.out hb
  have RL_w4 : Hid (OT w.heap.size w4 M1 k1 l) := RL_z3.out.grow hb
  have bT_w4 : Hid (Blk w4 w1.heap.size #[.int .i64 x.1, .int .i64 x.2] 26) := bT_z3.out.grow hb
  have RM_w4 : Hid (OT z1.heap.size w4 M2 k2 m) := RM_z3.out.grow hb
  have RX_w4 : Hid (OT w2.heap.size w4 M3 k3 (takeT m)) := RX_z3.out.grow hb
  have bA_w4 : Hid (Blk w4 w3.heap.size #[.int .i64 (fstT m).1, .int .i64 (fstT m).2] 26) := bA_z3.out.grow hb
  clear B_z3 RL_z3 bT_z3 RM_z3 RX_z3 bA_z3
  have RY_w4 : Hid (OT z3.heap.size w4 M4 k4 (takeT m)) := NRY.out
  clear NRY
  clear hb
  go_upto_region 7 with fail
  generalize hz : w4.alloc (.cells #[.int .i64 (fstT m).1, .int .i64 (fstT m).2] 26) = z4
  have hbz : Below w4.heap.size w4 z4 := by rw [← hz]; exact Go.Joins.below_alloc1 w4 _
  have bB_z4 : Hid (Blk z4 w4.heap.size #[.int .i64 (fstT m).1, .int .i64 (fstT m).2] 26) := by rw [← hz]; exact (Blk.new _ _ _)
  clear hz
  have B_z4 : Hid (Below w.heap.size w z4) := grow_on B_w4.out hbz
  have RL_z4 : Hid (OT w.heap.size z4 M1 k1 l) := RL_w4.out.grow hbz
  have bT_z4 : Hid (Blk z4 w1.heap.size #[.int .i64 x.1, .int .i64 x.2] 26) := bT_w4.out.grow hbz
  have RM_z4 : Hid (OT z1.heap.size z4 M2 k2 m) := RM_w4.out.grow hbz
  have RX_z4 : Hid (OT w2.heap.size z4 M3 k3 (takeT m)) := RX_w4.out.grow hbz
  have bA_z4 : Hid (Blk z4 w3.heap.size #[.int .i64 (fstT m).1, .int .i64 (fstT m).2] 26) := bA_w4.out.grow hbz
  have RY_z4 : Hid (OT z3.heap.size z4 M4 k4 (takeT m)) := RY_w4.out.grow hbz
  clear B_w4 RL_w4 bT_w4 RM_w4 RX_w4 bA_w4 RY_w4
  clear hbz
  go_wp2_with fail
  refine (drawHeapDrop_any a len cap _ HL.out (bytes_up HB.out B_z4.out)).mono ?_
  rintro e w5 ⟨⟨M5, k5, d, n, rfl, h5⟩, hb⟩
  have F5 : Hid (d.length ≤ 17) := h5.2
  have NRD : Hid (OT z4.heap.size w5 M5 k5 d) := h5.1
  have B_w5 : Hid (Below w.heap.size w w5) := grow_on B_z4.out hb
  have RL_w5 : Hid (OT w.heap.size w5 M1 k1 l) := RL_z4.out.grow hb
  have bT_w5 : Hid (Blk w5 w1.heap.size #[.int .i64 x.1, .int .i64 x.2] 26) := bT_z4.out.grow hb
  have RM_w5 : Hid (OT z1.heap.size w5 M2 k2 m) := RM_z4.out.grow hb
  have RX_w5 : Hid (OT w2.heap.size w5 M3 k3 (takeT m)) := RX_z4.out.grow hb
  have bA_w5 : Hid (Blk w5 w3.heap.size #[.int .i64 (fstT m).1, .int .i64 (fstT m).2] 26) := bA_z4.out.grow hb
  have RY_w5 : Hid (OT z3.heap.size w5 M4 k4 (takeT m)) := RY_z4.out.grow hb
  have bB_w5 : Hid (Blk w5 w4.heap.size #[.int .i64 (fstT m).1, .int .i64 (fstT m).2] 26) := bB_z4.out.grow hb
  clear B_z4 RL_z4 bT_z4 RM_z4 RX_z4 bA_z4 RY_z4 bB_z4
  have RD_w5 : Hid (OT z4.heap.size w5 M5 k5 d) := NRD.out
  clear NRD
  clear hb
  go_upto_region 8 with fail
  go_wp2_with fail
  refine (drawHeapOk_any a len cap _ HL.out (bytes_up HB.out B_w5.out)).mono ?_
  rintro e w6 ⟨⟨M6, k6, o, rfl, h6⟩, hb⟩
  have F6 : Hid (o.length ≤ 17) := h6.2
  have NRO : Hid (OT w5.heap.size w6 M6 k6 o) := h6.1
  have B_w6 : Hid (Below w.heap.size w w6) := grow_on B_w5.out hb
  have RL_w6 : Hid (OT w.heap.size w6 M1 k1 l) := RL_w5.out.grow hb
  have bT_w6 : Hid (Blk w6 w1.heap.size #[.int .i64 x.1, .int .i64 x.2] 26) := bT_w5.out.grow hb
  have RM_w6 : Hid (OT z1.heap.size w6 M2 k2 m) := RM_w5.out.grow hb
  have RX_w6 : Hid (OT w2.heap.size w6 M3 k3 (takeT m)) := RX_w5.out.grow hb
  have bA_w6 : Hid (Blk w6 w3.heap.size #[.int .i64 (fstT m).1, .int .i64 (fstT m).2] 26) := bA_w5.out.grow hb
  have RY_w6 : Hid (OT z3.heap.size w6 M4 k4 (takeT m)) := RY_w5.out.grow hb
  have bB_w6 : Hid (Blk w6 w4.heap.size #[.int .i64 (fstT m).1, .int .i64 (fstT m).2] 26) := bB_w5.out.grow hb
  have RD_w6 : Hid (OT z4.heap.size w6 M5 k5 d) := RD_w5.out.grow hb
  clear B_w5 RL_w5 bT_w5 RM_w5 RX_w5 bA_w5 RY_w5 bB_w5 RD_w5
  have RO_w6 : Hid (OT w5.heap.size w6 M6 k6 o) := NRO.out
  clear NRO
  clear hb
  go_upto_region 9 with fail
  go_wp2_with fail
  refine (drawSorted_any a len cap _ HL.out (bytes_up HB.out B_w6.out)).mono ?_
  rintro e w7 ⟨⟨M7, k7, s, rfl, h7⟩, hb⟩
  have F7 : Hid (s.length ≤ 17) := h7.2
  have NRS : Hid (OT w6.heap.size w7 M7 k7 s) := h7.1
  have B_w7 : Hid (Below w.heap.size w w7) := grow_on B_w6.out hb
  have RL_w7 : Hid (OT w.heap.size w7 M1 k1 l) := RL_w6.out.grow hb
  have bT_w7 : Hid (Blk w7 w1.heap.size #[.int .i64 x.1, .int .i64 x.2] 26) := bT_w6.out.grow hb
  have RM_w7 : Hid (OT z1.heap.size w7 M2 k2 m) := RM_w6.out.grow hb
  have RX_w7 : Hid (OT w2.heap.size w7 M3 k3 (takeT m)) := RX_w6.out.grow hb
  have bA_w7 : Hid (Blk w7 w3.heap.size #[.int .i64 (fstT m).1, .int .i64 (fstT m).2] 26) := bA_w6.out.grow hb
  have RY_w7 : Hid (OT z3.heap.size w7 M4 k4 (takeT m)) := RY_w6.out.grow hb
  have bB_w7 : Hid (Blk w7 w4.heap.size #[.int .i64 (fstT m).1, .int .i64 (fstT m).2] 26) := bB_w6.out.grow hb
  have RD_w7 : Hid (OT z4.heap.size w7 M5 k5 d) := RD_w6.out.grow hb
  have RO_w7 : Hid (OT w5.heap.size w7 M6 k6 o) := RO_w6.out.grow hb
  clear B_w6 RL_w6 bT_w6 RM_w6 RX_w6 bA_w6 RY_w6 bB_w6 RD_w6 RO_w6
  have RS_w7 : Hid (OT w6.heap.size w7 M7 k7 s) := NRS.out
  clear NRS
  clear hb
  go_upto_region 10 with fail
  go_wp2_with fail
  refine (drawBefore_any a len cap _ HL.out (bytes_up HB.out B_w7.out)).mono ?_
  rintro e w8 ⟨⟨u, v, rfl⟩, hb⟩
  have B_w8 : Hid (Below w.heap.size w w8) := grow_on B_w7.out hb
  have RL_w8 : Hid (OT w.heap.size w8 M1 k1 l) := RL_w7.out.grow hb
  have bT_w8 : Hid (Blk w8 w1.heap.size #[.int .i64 x.1, .int .i64 x.2] 26) := bT_w7.out.grow hb
  have RM_w8 : Hid (OT z1.heap.size w8 M2 k2 m) := RM_w7.out.grow hb
  have RX_w8 : Hid (OT w2.heap.size w8 M3 k3 (takeT m)) := RX_w7.out.grow hb
  have bA_w8 : Hid (Blk w8 w3.heap.size #[.int .i64 (fstT m).1, .int .i64 (fstT m).2] 26) := bA_w7.out.grow hb
  have RY_w8 : Hid (OT z3.heap.size w8 M4 k4 (takeT m)) := RY_w7.out.grow hb
  have bB_w8 : Hid (Blk w8 w4.heap.size #[.int .i64 (fstT m).1, .int .i64 (fstT m).2] 26) := bB_w7.out.grow hb
  have RD_w8 : Hid (OT z4.heap.size w8 M5 k5 d) := RD_w7.out.grow hb
  have RO_w8 : Hid (OT w5.heap.size w8 M6 k6 o) := RO_w7.out.grow hb
  have RS_w8 : Hid (OT w6.heap.size w8 M7 k7 s) := RS_w7.out.grow hb
  clear B_w7 RL_w7 bT_w7 RM_w7 RX_w7 bA_w7 RY_w7 bB_w7 RD_w7 RO_w7 RS_w7
  clear hb
  go_upto_region 11 with fail
  generalize hz : (w8.alloc (.cells #[.int .i64 u.1, .int .i64 u.2] 26)).alloc (.cells #[.int .i64 v.1, .int .i64 v.2] 26) = z8
  have hbz : Below w8.heap.size w8 z8 := by rw [← hz]; exact Go.Joins.below_alloc2 w8 _ _
  have bU_z8 : Hid (Blk z8 w8.heap.size #[.int .i64 u.1, .int .i64 u.2] 26) := by rw [← hz]; exact (Blk.new _ _ _).alloc _
  have bV_z8 : Hid (Blk z8 (w8.heap.size + 1) #[.int .i64 v.1, .int .i64 v.2] 26) := by rw [← hz]; exact Blk.new_at (by simp)
  clear hz
  have B_z8 : Hid (Below w.heap.size w z8) := grow_on B_w8.out hbz
  have RL_z8 : Hid (OT w.heap.size z8 M1 k1 l) := RL_w8.out.grow hbz
  have bT_z8 : Hid (Blk z8 w1.heap.size #[.int .i64 x.1, .int .i64 x.2] 26) := bT_w8.out.grow hbz
  have RM_z8 : Hid (OT z1.heap.size z8 M2 k2 m) := RM_w8.out.grow hbz
  have RX_z8 : Hid (OT w2.heap.size z8 M3 k3 (takeT m)) := RX_w8.out.grow hbz
  have bA_z8 : Hid (Blk z8 w3.heap.size #[.int .i64 (fstT m).1, .int .i64 (fstT m).2] 26) := bA_w8.out.grow hbz
  have RY_z8 : Hid (OT z3.heap.size z8 M4 k4 (takeT m)) := RY_w8.out.grow hbz
  have bB_z8 : Hid (Blk z8 w4.heap.size #[.int .i64 (fstT m).1, .int .i64 (fstT m).2] 26) := bB_w8.out.grow hbz
  have RD_z8 : Hid (OT z4.heap.size z8 M5 k5 d) := RD_w8.out.grow hbz
  have RO_z8 : Hid (OT w5.heap.size z8 M6 k6 o) := RO_w8.out.grow hbz
  have RS_z8 : Hid (OT w6.heap.size z8 M7 k7 s) := RS_w8.out.grow hbz
  clear B_w8 RL_w8 bT_w8 RM_w8 RX_w8 bA_w8 RY_w8 bB_w8 RD_w8 RO_w8 RS_w8
  clear hbz
  have C2 : Hid (∀ (u0 : World), Below z8.heap.size z8 u0 → Calls Try.prog 11 #[.slice (some ⟨M1, 0, none⟩) l.length k1, .agg #[.int .i64 x.1, .int .i64 x.2]] u0 fun e w' => (∃ M c, e = .returned (.slice (some ⟨M, 0, none⟩) (putT l x).length c) ∧ OT u0.heap.size w' M c (putT l x)) ∧ Below u0.heap.size u0 w') := fun u0 hu => implPut_any _ 0 _ l x u0 (RL_z8.out.grow hu).rd (by have := F1.out; omega)
  have C5 : Hid (∀ (u0 : World), Below z8.heap.size z8 u0 → Calls Try.prog 25 #[.slice (some ⟨M1, 0, none⟩) l.length k1, .agg #[.int .i64 x.1, .int .i64 x.2]] u0 fun e w' => (∃ M c, e = .returned (.slice (some ⟨M, 0, none⟩) (putT l x).length c) ∧ OT u0.heap.size w' M c (putT l x)) ∧ Below u0.heap.size u0 w') := fun u0 hu => specPut_any _ 0 _ l x u0 (RL_z8.out.grow hu).rd (by have := F1.out; omega)
  have C10 : Hid (∀ (u0 : World), Below z8.heap.size z8 u0 → Calls Try.prog 17 #[.slice (some ⟨M3, 0, none⟩) (takeT m).length k3, .slice (some ⟨M4, 0, none⟩) (takeT m).length k4] u0 fun e w' => e = .returned (.bool true) ∧ Below u0.heap.size u0 w') := fun u0 hu => sameH_any _ _ _ _ (takeT m) u0 (RX_z8.out.grow hu).rd (RY_z8.out.grow hu).rd (by rw [Hp.take_len]; have := F2.out; omega)
  have C25 : Hid (∀ (u0 : World), Below z8.heap.size z8 u0 → Calls Try.prog 14 #[.slice (some ⟨M5, 0, none⟩) d.length k5, .int .i64 n] u0 fun e w' => (∃ M c, e = .returned (.slice (some ⟨M, 0, none⟩) (dropT d n).length c) ∧ OT u0.heap.size w' M c (dropT d n)) ∧ Below u0.heap.size u0 w') := fun u0 hu => implDrop_any _ _ d n u0 (RD_z8.out.grow hu).rd (by have := F5.out; omega)
  have C28 : Hid (∀ (u0 : World), Below z8.heap.size z8 u0 → Calls Try.prog 26 #[.slice (some ⟨M5, 0, none⟩) d.length k5, .int .i64 n] u0 fun e w' => (∃ M c, e = .returned (.slice (some ⟨M, 0, none⟩) (dropT d n).length c) ∧ OT u0.heap.size w' M c (dropT d n)) ∧ Below u0.heap.size u0 w') := fun u0 hu => specDrop_any _ _ d n u0 (RD_z8.out.grow hu).rd (by have := F5.out; omega)
  obtain ⟨bo, hbo⟩ : ∃ b, heapOkB o = b := ⟨_, rfl⟩
  obtain ⟨bb, hbb⟩ : ∃ b, befB u v = b := ⟨_, rfl⟩
  have FA : Hid (befB u v = true → befB v u = false) := bef_asym
  have C33 : Hid (∀ (u0 : World), Below z8.heap.size z8 u0 → Calls Try.prog 15 #[.slice (some ⟨M6, 0, none⟩) o.length k6] u0 fun e w' => e = .returned (.bool bo) ∧ Below u0.heap.size u0 w') := fun u0 hu => by rw [← hbo]; exact implHeapOk_any _ _ o u0 (RO_z8.out.grow hu).rd (by have := F6.out; unfold maxLen; omega)
  have C35 : Hid (∀ (u0 : World), Below z8.heap.size z8 u0 → Calls Try.prog 27 #[.slice (some ⟨M6, 0, none⟩) o.length k6] u0 fun e w' => e = .returned (.bool bo) ∧ Below u0.heap.size u0 w') := fun u0 hu => by rw [← hbo]; exact specHeapOk_any _ _ o u0 (RO_z8.out.grow hu).rd (by have := F6.out; unfold maxLen; omega)
  have C40 : Hid (∀ (u0 : World), Below z8.heap.size z8 u0 → Calls Try.prog 12 #[.slice (some ⟨M7, 0, none⟩) s.length k7] u0 fun e w' => (∃ M c, e = .returned (.slice (some ⟨M, 0, none⟩) (sortT s).length c) ∧ OT u0.heap.size w' M c (sortT s)) ∧ Below u0.heap.size u0 w') := fun u0 hu => implSorted_any _ 0 _ s u0 (RS_z8.out.grow hu).rd (by have := F7.out; omega)
  have C42 : Hid (∀ (u0 : World), Below z8.heap.size z8 u0 → Calls Try.prog 28 #[.slice (some ⟨M7, 0, none⟩) s.length k7] u0 fun e w' => (∃ M c, e = .returned (.slice (some ⟨M, 0, none⟩) (sortT s).length c) ∧ OT u0.heap.size w' M c (sortT s)) ∧ Below u0.heap.size u0 w') := fun u0 hu => specSorted_any _ 0 _ s u0 (RS_z8.out.grow hu).rd (by have := F7.out; omega)
  have C48 : Hid (∀ (u0 : World), Below z8.heap.size z8 u0 → Calls Try.prog 16 #[.agg #[.int .i64 u.1, .int .i64 u.2], .agg #[.int .i64 v.1, .int .i64 v.2]] u0 fun e w' => e = .returned (.bool bb) ∧ Below u0.heap.size u0 w') := fun u0 hu => by rw [← hbb]; exact implBefore_any u v u0
  have C51 : Hid (∀ (u0 : World), Below z8.heap.size z8 u0 → Calls Try.prog 29 #[.agg #[.int .i64 u.1, .int .i64 u.2], .agg #[.int .i64 v.1, .int .i64 v.2]] u0 fun e w' => e = .returned (.bool bb) ∧ Below u0.heap.size u0 w') := fun u0 hu => by rw [← hbb]; exact specBefore_any u v u0
  have e1 : (bo == bo) = true := by cases bo <;> rfl
  have hl : (((putT l x).length : Int) == (l.length : Int) + 1) = true := by rw [put_len]; simp
  have hlw : (l.length : Int) ≤ 17 := by have := F1.out; omega
  have HLE : Hid ((((putT l x).length : Int) == IntKind.i64.wrap ((l.length : Int) + 1)) = true) := by
    have e : IntKind.i64.wrap ((l.length : Int) + 1) = (l.length : Int) + 1 := by rw [IntKind.wrap_i64]; omega
    unfold Hid; rw [e]; exact hl
  cases bb with
  | false =>
    have HS : Hid (∀ w', Below z8.heap.size z8 w' → Below z8.heap.size z8 w' ∧ w'.cell? ⟨w1.heap.size, 0, none⟩ = some (.int .i64 x.1) ∧ w'.cell? ⟨w1.heap.size, 1, none⟩ = some (.int .i64 x.2) ∧ w'.cell? ⟨w3.heap.size, 0, none⟩ = some (.int .i64 (fstT m).1) ∧ w'.cell? ⟨w3.heap.size, 1, none⟩ = some (.int .i64 (fstT m).2) ∧ w'.cell? ⟨w4.heap.size, 0, none⟩ = some (.int .i64 (fstT m).1) ∧ w'.cell? ⟨w4.heap.size, 1, none⟩ = some (.int .i64 (fstT m).2) ∧ w'.cell? ⟨w8.heap.size, 0, none⟩ = some (.int .i64 u.1) ∧ w'.cell? ⟨w8.heap.size, 1, none⟩ = some (.int .i64 u.2) ∧ w'.cell? ⟨(w8.heap.size + 1), 0, none⟩ = some (.int .i64 v.1) ∧ w'.cell? ⟨(w8.heap.size + 1), 1, none⟩ = some (.int .i64 v.2)) := fun w' h => ⟨h, (bT_z8.out.grow h).cell 0, (bT_z8.out.grow h).cell 1, (bA_z8.out.grow h).cell 0, (bA_z8.out.grow h).cell 1, (bB_z8.out.grow h).cell 0, (bB_z8.out.grow h).cell 1, (bU_z8.out.grow h).cell 0, (bU_z8.out.grow h).cell 1, (bV_z8.out.grow h).cell 0, (bV_z8.out.grow h).cell 1⟩
    go_upto_region 11 with fail
    refine wp_region_held_drew (S := fun w' => Below z8.heap.size z8 w' ∧ w'.cell? ⟨w1.heap.size, 0, none⟩ = some (.int .i64 x.1) ∧ w'.cell? ⟨w1.heap.size, 1, none⟩ = some (.int .i64 x.2) ∧ w'.cell? ⟨w3.heap.size, 0, none⟩ = some (.int .i64 (fstT m).1) ∧ w'.cell? ⟨w3.heap.size, 1, none⟩ = some (.int .i64 (fstT m).2) ∧ w'.cell? ⟨w4.heap.size, 0, none⟩ = some (.int .i64 (fstT m).1) ∧ w'.cell? ⟨w4.heap.size, 1, none⟩ = some (.int .i64 (fstT m).2) ∧ w'.cell? ⟨w8.heap.size, 0, none⟩ = some (.int .i64 u.1) ∧ w'.cell? ⟨w8.heap.size, 1, none⟩ = some (.int .i64 u.2) ∧ w'.cell? ⟨(w8.heap.size + 1), 0, none⟩ = some (.int .i64 v.1) ∧ w'.cell? ⟨(w8.heap.size + 1), 1, none⟩ = some (.int .i64 v.2)) (by kernel_rfl) (HS.out _ (Below.refl _ _).drew) (fun hHeld => ?_)
    refine wpAnyH_take (i := 0) (oi := { dst := some 53, op := Op.move (Operand.tmp 3), type := 24, pos := "laws.go:505", after := #[], guard := none }) (v := ?vf0) rfl (by kernel_rfl) (by kernel_rfl) (by kernel_rfl) (fun _ _ _ h => h) (Or.inl ⟨by rfl, ?hyf0⟩) hHeld ?_
    case hyf0 => (intro w hSw; (try dsimp only at hSw); go_simp <;> with_reducible rfl)
    try simp only [Act.put, List.setIfInBounds_toArray, List.set_cons_zero, List.set_cons_succ]
    refine wpAnyH_take (i := 1) (oi := { dst := some 54, op := Op.load 26 (Operand.tmp 4), type := 26, pos := "laws.go:505", after := #[], guard := none }) (v := ?vf1) rfl (by kernel_rfl) (by kernel_rfl) (by kernel_rfl) (fun _ _ _ h => h) (Or.inl ⟨by rfl, ?hyf1⟩) hHeld ?_
    case hyf1 => (intro w hSw; (try dsimp only at hSw); go_simp <;> with_reducible rfl)
    try simp only [Act.put, List.setIfInBounds_toArray, List.set_cons_zero, List.set_cons_succ]
    refine wpAnyH_take (i := 3) (oi := { dst := some 56, op := Op.move (Operand.tmp 3), type := 24, pos := "laws.go:505", after := #[], guard := none }) (v := ?vf3) rfl (by kernel_rfl) (by kernel_rfl) (by kernel_rfl) (fun _ _ _ h => h) (Or.inl ⟨by rfl, ?hyf3⟩) hHeld ?_
    case hyf3 => (intro w hSw; (try dsimp only at hSw); go_simp <;> with_reducible rfl)
    try simp only [Act.put, List.setIfInBounds_toArray, List.set_cons_zero, List.set_cons_succ]
    refine wpAnyH_take (i := 4) (oi := { dst := some 57, op := Op.load 26 (Operand.tmp 4), type := 26, pos := "laws.go:505", after := #[], guard := none }) (v := ?vf4) rfl (by kernel_rfl) (by kernel_rfl) (by kernel_rfl) (fun _ _ _ h => h) (Or.inl ⟨by rfl, ?hyf4⟩) hHeld ?_
    case hyf4 => (intro w hSw; (try dsimp only at hSw); go_simp <;> with_reducible rfl)
    try simp only [Act.put, List.setIfInBounds_toArray, List.set_cons_zero, List.set_cons_succ]
    refine wpAnyH_ready (rs := [2]) (by kernel_rfl) (by simp) ?_
    refine AllReadyH.cons (o := { dst := some 55, op := Op.call { callee := Callee.value (Operand.func 11), args := #[Operand.tmp 53, Operand.tmp 54], argTypes := #[24, 26] }, type := 24, pos := "laws.go:505", after := #[{ on := 0, ground := Ground.data }, { on := 1, ground := Ground.data }], guard := none }) rfl (fun K hK => ?_) AllReadyH.nil
    go_simp
    refine (C2.out _ hHeld.1).mono ?_
    rintro r wvf2 ⟨⟨M2, c2, rfl, hr2⟩, hy⟩
    have HK2 : Hid (OT _ wvf2 M2 c2 (putT l x)) := hr2
    clear hr2
    have hz : Below z8.heap.size z8 wvf2 := grow_on hHeld.1 hy
    clear hHeld hy
    refine hK.out _ _ (HS.out _ hz) (fun hHeld => ?_)
    clear hK K hz
    try simp only [Act.put, List.setIfInBounds_toArray, List.set_cons_zero, List.set_cons_succ]
    refine wpAnyH_ready (rs := [5]) (by kernel_rfl) (by simp) ?_
    refine AllReadyH.cons (o := { dst := some 58, op := Op.call { callee := Callee.value (Operand.func 25), args := #[Operand.tmp 56, Operand.tmp 57], argTypes := #[24, 26] }, type := 24, pos := "laws.go:505", after := #[{ on := 3, ground := Ground.data }, { on := 4, ground := Ground.data }, { on := 2, ground := Ground.chain }], guard := none }) rfl (fun K hK => ?_) AllReadyH.nil
    go_simp
    refine (C5.out _ hHeld.1).mono ?_
    rintro r wvf5 ⟨⟨M5, c5, rfl, hr5⟩, hy⟩
    have HK5 : Hid (OT _ wvf5 M5 c5 (putT l x)) := hr5
    clear hr5
    replace HK2 : Hid (OT _ wvf5 M2 c2 (putT l x)) := HK2.out.grow hy
    have hz : Below z8.heap.size z8 wvf5 := grow_on hHeld.1 hy
    clear hHeld hy
    refine hK.out _ _ (HS.out _ hz) (fun hHeld => ?_)
    clear hK K hz
    try simp only [Act.put, List.setIfInBounds_toArray, List.set_cons_zero, List.set_cons_succ]
    refine wpAnyH_ready (rs := [6]) (by kernel_rfl) (by simp) ?_
    refine AllReadyH.cons (o := { dst := some 59, op := Op.call { callee := Callee.value (Operand.func 17), args := #[Operand.tmp 55, Operand.tmp 58], argTypes := #[24, 24] }, type := 4, pos := "laws.go:505", after := #[{ on := 2, ground := Ground.data }, { on := 5, ground := Ground.data }, { on := 5, ground := Ground.chain }], guard := none }) rfl (fun K hK => ?_) AllReadyH.nil
    go_simp
    refine (sameH_any _ _ _ _ (putT l x) _ HK2.out.rd HK5.out.rd (by rw [put_len]; have := F1.out; omega)).mono ?_
    rintro r wvf6 ⟨rfl, hy⟩
    have hz : Below z8.heap.size z8 wvf6 := grow_on hHeld.1 hy
    clear hHeld hy
    refine hK.out _ _ (HS.out _ hz) (fun hHeld => ?_)
    clear hK K hz
    try simp only [Act.put, List.setIfInBounds_toArray, List.set_cons_zero, List.set_cons_succ]
    refine wpAnyH_take (i := 7) (oi := { dst := some 60, op := Op.move (Operand.tmp 59), type := 4, pos := "laws.go:505", after := #[{ on := 6, ground := Ground.data }, { on := 6, ground := Ground.chain }], guard := none }) (v := ?vf7) rfl (by kernel_rfl) (by kernel_rfl) (by kernel_rfl) (fun _ _ _ h => h) (Or.inl ⟨by rfl, ?hyf7⟩) hHeld ?_
    case hyf7 => (intro w hSw; (try dsimp only at hSw); go_simp <;> with_reducible rfl)
    try simp only [Act.put, List.setIfInBounds_toArray, List.set_cons_zero, List.set_cons_succ]
    refine wpAnyH_take (i := 8) (oi := { dst := some 61, op := Op.move (Operand.tmp 6), type := 24, pos := "laws.go:505", after := #[{ on := 7, ground := Ground.guard }], guard := some (7, true) }) (v := ?vf8) rfl (by kernel_rfl) (by kernel_rfl) (by kernel_rfl) (fun _ _ _ h => h) (Or.inl ⟨by rfl, ?hyf8⟩) hHeld ?_
    case hyf8 => (intro w hSw; (try dsimp only at hSw); go_simp <;> with_reducible rfl)
    try simp only [Act.put, List.setIfInBounds_toArray, List.set_cons_zero, List.set_cons_succ]
    refine wpAnyH_take (i := 9) (oi := { dst := some 62, op := Op.move (Operand.tmp 9), type := 24, pos := "laws.go:505", after := #[{ on := 7, ground := Ground.guard }], guard := some (7, true) }) (v := ?vf9) rfl (by kernel_rfl) (by kernel_rfl) (by kernel_rfl) (fun _ _ _ h => h) (Or.inl ⟨by rfl, ?hyf9⟩) hHeld ?_
    case hyf9 => (intro w hSw; (try dsimp only at hSw); go_simp <;> with_reducible rfl)
    try simp only [Act.put, List.setIfInBounds_toArray, List.set_cons_zero, List.set_cons_succ]
    refine wpAnyH_ready (rs := [10]) (by kernel_rfl) (by simp) ?_
    refine AllReadyH.cons (o := { dst := some 63, op := Op.call { callee := Callee.value (Operand.func 17), args := #[Operand.tmp 61, Operand.tmp 62], argTypes := #[24, 24] }, type := 4, pos := "laws.go:505", after := #[{ on := 8, ground := Ground.data }, { on := 9, ground := Ground.data }, { on := 7, ground := Ground.chain }, { on := 7, ground := Ground.guard }], guard := some (7, true) }) rfl (fun K hK => ?_) AllReadyH.nil
    go_simp
    refine (C10.out _ hHeld.1).mono ?_
    rintro r wvf10 ⟨rfl, hy⟩
    have hz : Below z8.heap.size z8 wvf10 := grow_on hHeld.1 hy
    clear hHeld hy
    refine hK.out _ _ (HS.out _ hz) (fun hHeld => ?_)
    clear hK K hz
    try simp only [Act.put, List.setIfInBounds_toArray, List.set_cons_zero, List.set_cons_succ]
    refine wpAnyH_take (i := 11) (oi := { dst := some 64, op := Op.pick (Operand.tmp 60) (Operand.tmp 63) (Operand.const (Value.bool false)), type := 4, pos := "laws.go:505", after := #[{ on := 7, ground := Ground.data }, { on := 10, ground := Ground.data }], guard := none }) (v := ?vf11) rfl (by kernel_rfl) (by kernel_rfl) (by kernel_rfl) (fun _ _ _ h => h) (Or.inl ⟨by rfl, ?hyf11⟩) hHeld ?_
    case hyf11 => (intro w hSw; (try dsimp only at hSw); go_simp <;> with_reducible rfl)
    try simp only [Act.put, List.setIfInBounds_toArray, List.set_cons_zero, List.set_cons_succ]
    refine wpAnyH_take (i := 12) (oi := { dst := some 65, op := Op.move (Operand.tmp 64), type := 4, pos := "laws.go:505", after := #[{ on := 11, ground := Ground.data }, { on := 10, ground := Ground.chain }], guard := none }) (v := ?vf12) rfl (by kernel_rfl) (by kernel_rfl) (by kernel_rfl) (fun _ _ _ h => h) (Or.inl ⟨by rfl, ?hyf12⟩) hHeld ?_
    case hyf12 => (intro w hSw; (try dsimp only at hSw); go_simp <;> with_reducible rfl)
    try simp only [Act.put, List.setIfInBounds_toArray, List.set_cons_zero, List.set_cons_succ]
    refine wpAnyH_take (i := 13) (oi := { dst := some 66, op := Op.load 26 (Operand.tmp 7), type := 26, pos := "laws.go:505", after := #[{ on := 12, ground := Ground.guard }], guard := some (12, true) }) (v := ?vf13) rfl (by kernel_rfl) (by kernel_rfl) (by kernel_rfl) (fun _ _ _ h => h) (Or.inl ⟨by rfl, ?hyf13⟩) hHeld ?_
    case hyf13 => (intro w hSw; (try dsimp only at hSw); go_simp <;> with_reducible rfl)
    try simp only [Act.put, List.setIfInBounds_toArray, List.set_cons_zero, List.set_cons_succ]
    refine wpAnyH_take (i := 14) (oi := { dst := some 67, op := Op.load 26 (Operand.tmp 10), type := 26, pos := "laws.go:505", after := #[{ on := 12, ground := Ground.guard }], guard := some (12, true) }) (v := ?vf14) rfl (by kernel_rfl) (by kernel_rfl) (by kernel_rfl) (fun _ _ _ h => h) (Or.inl ⟨by rfl, ?hyf14⟩) hHeld ?_
    case hyf14 => (intro w hSw; (try dsimp only at hSw); go_simp <;> with_reducible rfl)
    try simp only [Act.put, List.setIfInBounds_toArray, List.set_cons_zero, List.set_cons_succ]
    refine wpAnyH_take (i := 15) (oi := { dst := some 68, op := Op.binOp BinOp.eql 26 (Operand.tmp 66) (Operand.tmp 67) 26, type := 4, pos := "laws.go:505", after := #[{ on := 13, ground := Ground.data }, { on := 14, ground := Ground.data }, { on := 12, ground := Ground.guard }], guard := some (12, true) }) (v := ?vf15) rfl (by kernel_rfl) (by kernel_rfl) (by kernel_rfl) (fun _ _ _ h => h) (Or.inl ⟨by rfl, ?hyf15⟩) hHeld ?_
    case hyf15 => (intro w hSw; (try dsimp only at hSw); go_simp <;> with_reducible rfl)
    try simp only [Act.put, List.setIfInBounds_toArray, List.set_cons_zero, List.set_cons_succ]
    refine wpAnyH_take (i := 16) (oi := { dst := some 69, op := Op.pick (Operand.tmp 65) (Operand.tmp 68) (Operand.const (Value.bool false)), type := 4, pos := "laws.go:505", after := #[{ on := 12, ground := Ground.data }, { on := 15, ground := Ground.data }], guard := none }) (v := ?vf16) rfl (by kernel_rfl) (by kernel_rfl) (by kernel_rfl) (fun _ _ _ h => h) (Or.inl ⟨by rfl, ?hyf16⟩) hHeld ?_
    case hyf16 => (intro w hSw; (try dsimp only at hSw); go_simp <;> with_reducible rfl)
    try simp only [Act.put, List.setIfInBounds_toArray, List.set_cons_zero, List.set_cons_succ]
    refine wpAnyH_take (i := 17) (oi := { dst := some 70, op := Op.move (Operand.tmp 69), type := 4, pos := "laws.go:505", after := #[{ on := 16, ground := Ground.data }, { on := 12, ground := Ground.chain }], guard := none }) (v := ?vf17) rfl (by kernel_rfl) (by kernel_rfl) (by kernel_rfl) (fun _ _ _ h => h) (Or.inl ⟨by rfl, ?hyf17⟩) hHeld ?_
    case hyf17 => (intro w hSw; (try dsimp only at hSw); go_simp <;> with_reducible rfl)
    try simp only [Act.put, List.setIfInBounds_toArray, List.set_cons_zero, List.set_cons_succ]
    refine wpAnyH_take (i := 18) (oi := { dst := some 71, op := Op.move (Operand.tmp 8), type := 4, pos := "laws.go:505", after := #[{ on := 17, ground := Ground.guard }], guard := some (17, true) }) (v := ?vf18) rfl (by kernel_rfl) (by kernel_rfl) (by kernel_rfl) (fun _ _ _ h => h) (Or.inl ⟨by rfl, ?hyf18⟩) hHeld ?_
    case hyf18 => (intro w hSw; (try dsimp only at hSw); go_simp <;> with_reducible rfl)
    try simp only [Act.put, List.setIfInBounds_toArray, List.set_cons_zero, List.set_cons_succ]
    refine wpAnyH_take (i := 19) (oi := { dst := some 72, op := Op.move (Operand.tmp 11), type := 4, pos := "laws.go:505", after := #[{ on := 17, ground := Ground.guard }], guard := some (17, true) }) (v := ?vf19) rfl (by kernel_rfl) (by kernel_rfl) (by kernel_rfl) (fun _ _ _ h => h) (Or.inl ⟨by rfl, ?hyf19⟩) hHeld ?_
    case hyf19 => (intro w hSw; (try dsimp only at hSw); go_simp <;> with_reducible rfl)
    try simp only [Act.put, List.setIfInBounds_toArray, List.set_cons_zero, List.set_cons_succ]
    refine wpAnyH_take (i := 20) (oi := { dst := some 73, op := Op.binOp BinOp.eql 4 (Operand.tmp 71) (Operand.tmp 72) 4, type := 4, pos := "laws.go:505", after := #[{ on := 18, ground := Ground.data }, { on := 19, ground := Ground.data }, { on := 17, ground := Ground.guard }], guard := some (17, true) }) (v := ?vf20) rfl (by kernel_rfl) (by kernel_rfl) (by kernel_rfl) (fun _ _ _ h => h) (Or.inl ⟨by rfl, ?hyf20⟩) hHeld ?_
    case hyf20 => (intro w hSw; (try dsimp only at hSw); go_simp <;> with_reducible rfl)
    try simp only [Act.put, List.setIfInBounds_toArray, List.set_cons_zero, List.set_cons_succ]
    refine wpAnyH_take (i := 21) (oi := { dst := some 74, op := Op.pick (Operand.tmp 70) (Operand.tmp 73) (Operand.const (Value.bool false)), type := 4, pos := "laws.go:505", after := #[{ on := 17, ground := Ground.data }, { on := 20, ground := Ground.data }], guard := none }) (v := ?vf21) rfl (by kernel_rfl) (by kernel_rfl) (by kernel_rfl) (fun _ _ _ h => h) (Or.inl ⟨by rfl, ?hyf21⟩) hHeld ?_
    case hyf21 => (intro w hSw; (try dsimp only at hSw); go_simp <;> with_reducible rfl)
    try simp only [Act.put, List.setIfInBounds_toArray, List.set_cons_zero, List.set_cons_succ]
    refine wpAnyH_take (i := 22) (oi := { dst := some 75, op := Op.move (Operand.tmp 74), type := 4, pos := "laws.go:505", after := #[{ on := 21, ground := Ground.data }, { on := 17, ground := Ground.chain }], guard := none }) (v := ?vf22) rfl (by kernel_rfl) (by kernel_rfl) (by kernel_rfl) (fun _ _ _ h => h) (Or.inl ⟨by rfl, ?hyf22⟩) hHeld ?_
    case hyf22 => (intro w hSw; (try dsimp only at hSw); go_simp <;> with_reducible rfl)
    try simp only [Act.put, List.setIfInBounds_toArray, List.set_cons_zero, List.set_cons_succ]
    refine wpAnyH_take (i := 23) (oi := { dst := some 76, op := Op.move (Operand.tmp 12), type := 24, pos := "laws.go:505", after := #[{ on := 22, ground := Ground.guard }], guard := some (22, true) }) (v := ?vf23) rfl (by kernel_rfl) (by kernel_rfl) (by kernel_rfl) (fun _ _ _ h => h) (Or.inl ⟨by rfl, ?hyf23⟩) hHeld ?_
    case hyf23 => (intro w hSw; (try dsimp only at hSw); go_simp <;> with_reducible rfl)
    try simp only [Act.put, List.setIfInBounds_toArray, List.set_cons_zero, List.set_cons_succ]
    refine wpAnyH_take (i := 24) (oi := { dst := some 77, op := Op.move (Operand.tmp 13), type := 3, pos := "laws.go:505", after := #[{ on := 22, ground := Ground.guard }], guard := some (22, true) }) (v := ?vf24) rfl (by kernel_rfl) (by kernel_rfl) (by kernel_rfl) (fun _ _ _ h => h) (Or.inl ⟨by rfl, ?hyf24⟩) hHeld ?_
    case hyf24 => (intro w hSw; (try dsimp only at hSw); go_simp <;> with_reducible rfl)
    try simp only [Act.put, List.setIfInBounds_toArray, List.set_cons_zero, List.set_cons_succ]
    refine wpAnyH_take (i := 26) (oi := { dst := some 79, op := Op.move (Operand.tmp 12), type := 24, pos := "laws.go:505", after := #[{ on := 22, ground := Ground.guard }], guard := some (22, true) }) (v := ?vf26) rfl (by kernel_rfl) (by kernel_rfl) (by kernel_rfl) (fun _ _ _ h => h) (Or.inl ⟨by rfl, ?hyf26⟩) hHeld ?_
    case hyf26 => (intro w hSw; (try dsimp only at hSw); go_simp <;> with_reducible rfl)
    try simp only [Act.put, List.setIfInBounds_toArray, List.set_cons_zero, List.set_cons_succ]
    refine wpAnyH_take (i := 27) (oi := { dst := some 80, op := Op.move (Operand.tmp 13), type := 3, pos := "laws.go:505", after := #[{ on := 22, ground := Ground.guard }], guard := some (22, true) }) (v := ?vf27) rfl (by kernel_rfl) (by kernel_rfl) (by kernel_rfl) (fun _ _ _ h => h) (Or.inl ⟨by rfl, ?hyf27⟩) hHeld ?_
    case hyf27 => (intro w hSw; (try dsimp only at hSw); go_simp <;> with_reducible rfl)
    try simp only [Act.put, List.setIfInBounds_toArray, List.set_cons_zero, List.set_cons_succ]
    refine wpAnyH_ready (rs := [25]) (by kernel_rfl) (by simp) ?_
    refine AllReadyH.cons (o := { dst := some 78, op := Op.call { callee := Callee.value (Operand.func 14), args := #[Operand.tmp 76, Operand.tmp 77], argTypes := #[24, 3] }, type := 24, pos := "laws.go:505", after := #[{ on := 23, ground := Ground.data }, { on := 24, ground := Ground.data }, { on := 22, ground := Ground.chain }, { on := 22, ground := Ground.guard }], guard := some (22, true) }) rfl (fun K hK => ?_) AllReadyH.nil
    go_simp
    refine (C25.out _ hHeld.1).mono ?_
    rintro r wvf25 ⟨⟨M25, c25, rfl, hr25⟩, hy⟩
    have HK25 : Hid (OT _ wvf25 M25 c25 (dropT d n)) := hr25
    clear hr25
    have hz : Below z8.heap.size z8 wvf25 := grow_on hHeld.1 hy
    clear hHeld hy
    refine hK.out _ _ (HS.out _ hz) (fun hHeld => ?_)
    clear hK K hz
    try simp only [Act.put, List.setIfInBounds_toArray, List.set_cons_zero, List.set_cons_succ]
    refine wpAnyH_ready (rs := [28]) (by kernel_rfl) (by simp) ?_
    refine AllReadyH.cons (o := { dst := some 81, op := Op.call { callee := Callee.value (Operand.func 26), args := #[Operand.tmp 79, Operand.tmp 80], argTypes := #[24, 3] }, type := 24, pos := "laws.go:505", after := #[{ on := 26, ground := Ground.data }, { on := 27, ground := Ground.data }, { on := 25, ground := Ground.chain }, { on := 22, ground := Ground.guard }], guard := some (22, true) }) rfl (fun K hK => ?_) AllReadyH.nil
    go_simp
    refine (C28.out _ hHeld.1).mono ?_
    rintro r wvf28 ⟨⟨M28, c28, rfl, hr28⟩, hy⟩
    have HK28 : Hid (OT _ wvf28 M28 c28 (dropT d n)) := hr28
    clear hr28
    replace HK25 : Hid (OT _ wvf28 M25 c25 (dropT d n)) := HK25.out.grow hy
    have hz : Below z8.heap.size z8 wvf28 := grow_on hHeld.1 hy
    clear hHeld hy
    refine hK.out _ _ (HS.out _ hz) (fun hHeld => ?_)
    clear hK K hz
    try simp only [Act.put, List.setIfInBounds_toArray, List.set_cons_zero, List.set_cons_succ]
    refine wpAnyH_ready (rs := [29]) (by kernel_rfl) (by simp) ?_
    refine AllReadyH.cons (o := { dst := some 82, op := Op.call { callee := Callee.value (Operand.func 17), args := #[Operand.tmp 78, Operand.tmp 81], argTypes := #[24, 24] }, type := 4, pos := "laws.go:505", after := #[{ on := 25, ground := Ground.data }, { on := 28, ground := Ground.data }, { on := 28, ground := Ground.chain }, { on := 22, ground := Ground.guard }], guard := some (22, true) }) rfl (fun K hK => ?_) AllReadyH.nil
    go_simp
    refine (sameH_any _ _ _ _ (dropT d n) _ HK25.out.rd HK28.out.rd (by rw [drop_len]; have := F5.out; omega)).mono ?_
    rintro r wvf29 ⟨rfl, hy⟩
    have hz : Below z8.heap.size z8 wvf29 := grow_on hHeld.1 hy
    clear hHeld hy
    refine hK.out _ _ (HS.out _ hz) (fun hHeld => ?_)
    clear hK K hz
    try simp only [Act.put, List.setIfInBounds_toArray, List.set_cons_zero, List.set_cons_succ]
    refine wpAnyH_take (i := 30) (oi := { dst := some 83, op := Op.pick (Operand.tmp 75) (Operand.tmp 82) (Operand.const (Value.bool false)), type := 4, pos := "laws.go:505", after := #[{ on := 22, ground := Ground.data }, { on := 29, ground := Ground.data }], guard := none }) (v := ?vf30) rfl (by kernel_rfl) (by kernel_rfl) (by kernel_rfl) (fun _ _ _ h => h) (Or.inl ⟨by rfl, ?hyf30⟩) hHeld ?_
    case hyf30 => (intro w hSw; (try dsimp only at hSw); go_simp <;> with_reducible rfl)
    try simp only [Act.put, List.setIfInBounds_toArray, List.set_cons_zero, List.set_cons_succ]
    refine wpAnyH_take (i := 31) (oi := { dst := some 84, op := Op.move (Operand.tmp 83), type := 4, pos := "laws.go:505", after := #[{ on := 30, ground := Ground.data }, { on := 29, ground := Ground.chain }], guard := none }) (v := ?vf31) rfl (by kernel_rfl) (by kernel_rfl) (by kernel_rfl) (fun _ _ _ h => h) (Or.inl ⟨by rfl, ?hyf31⟩) hHeld ?_
    case hyf31 => (intro w hSw; (try dsimp only at hSw); go_simp <;> with_reducible rfl)
    try simp only [Act.put, List.setIfInBounds_toArray, List.set_cons_zero, List.set_cons_succ]
    refine wpAnyH_take (i := 32) (oi := { dst := some 85, op := Op.move (Operand.tmp 14), type := 24, pos := "laws.go:505", after := #[{ on := 31, ground := Ground.guard }], guard := some (31, true) }) (v := ?vf32) rfl (by kernel_rfl) (by kernel_rfl) (by kernel_rfl) (fun _ _ _ h => h) (Or.inl ⟨by rfl, ?hyf32⟩) hHeld ?_
    case hyf32 => (intro w hSw; (try dsimp only at hSw); go_simp <;> with_reducible rfl)
    try simp only [Act.put, List.setIfInBounds_toArray, List.set_cons_zero, List.set_cons_succ]
    refine wpAnyH_take (i := 34) (oi := { dst := some 87, op := Op.move (Operand.tmp 14), type := 24, pos := "laws.go:505", after := #[{ on := 31, ground := Ground.guard }], guard := some (31, true) }) (v := ?vf34) rfl (by kernel_rfl) (by kernel_rfl) (by kernel_rfl) (fun _ _ _ h => h) (Or.inl ⟨by rfl, ?hyf34⟩) hHeld ?_
    case hyf34 => (intro w hSw; (try dsimp only at hSw); go_simp <;> with_reducible rfl)
    try simp only [Act.put, List.setIfInBounds_toArray, List.set_cons_zero, List.set_cons_succ]
    refine wpAnyH_ready (rs := [33]) (by kernel_rfl) (by simp) ?_
    refine AllReadyH.cons (o := { dst := some 86, op := Op.call { callee := Callee.value (Operand.func 15), args := #[Operand.tmp 85], argTypes := #[24] }, type := 4, pos := "laws.go:505", after := #[{ on := 32, ground := Ground.data }, { on := 31, ground := Ground.chain }, { on := 31, ground := Ground.guard }], guard := some (31, true) }) rfl (fun K hK => ?_) AllReadyH.nil
    go_simp
    refine (C33.out _ hHeld.1).mono ?_
    rintro r wvf33 ⟨rfl, hy⟩
    have hz : Below z8.heap.size z8 wvf33 := grow_on hHeld.1 hy
    clear hHeld hy
    refine hK.out _ _ (HS.out _ hz) (fun hHeld => ?_)
    clear hK K hz
    try simp only [Act.put, List.setIfInBounds_toArray, List.set_cons_zero, List.set_cons_succ]
    refine wpAnyH_ready (rs := [35]) (by kernel_rfl) (by simp) ?_
    refine AllReadyH.cons (o := { dst := some 88, op := Op.call { callee := Callee.value (Operand.func 27), args := #[Operand.tmp 87], argTypes := #[24] }, type := 4, pos := "laws.go:505", after := #[{ on := 34, ground := Ground.data }, { on := 33, ground := Ground.chain }, { on := 31, ground := Ground.guard }], guard := some (31, true) }) rfl (fun K hK => ?_) AllReadyH.nil
    go_simp
    refine (C35.out _ hHeld.1).mono ?_
    rintro r wvf35 ⟨rfl, hy⟩
    have hz : Below z8.heap.size z8 wvf35 := grow_on hHeld.1 hy
    clear hHeld hy
    refine hK.out _ _ (HS.out _ hz) (fun hHeld => ?_)
    clear hK K hz
    try simp only [Act.put, List.setIfInBounds_toArray, List.set_cons_zero, List.set_cons_succ]
    refine wpAnyH_take (i := 36) (oi := { dst := some 89, op := Op.binOp BinOp.eql 4 (Operand.tmp 86) (Operand.tmp 88) 4, type := 4, pos := "laws.go:505", after := #[{ on := 33, ground := Ground.data }, { on := 35, ground := Ground.data }, { on := 31, ground := Ground.guard }], guard := some (31, true) }) (v := ?vf36) rfl (by kernel_rfl) (by kernel_rfl) (by kernel_rfl) (fun _ _ _ h => h) (Or.inl ⟨by rfl, ?hyf36⟩) hHeld ?_
    case hyf36 => (intro w hSw; (try dsimp only at hSw); go_simp <;> with_reducible rfl)
    try simp only [Act.put, List.setIfInBounds_toArray, List.set_cons_zero, List.set_cons_succ]
    refine wpAnyH_take (i := 37) (oi := { dst := some 90, op := Op.pick (Operand.tmp 84) (Operand.tmp 89) (Operand.const (Value.bool false)), type := 4, pos := "laws.go:505", after := #[{ on := 31, ground := Ground.data }, { on := 36, ground := Ground.data }], guard := none }) (v := ?vf37) rfl (by kernel_rfl) (by kernel_rfl) (by kernel_rfl) (fun _ _ _ h => h) (Or.inl ⟨by rfl, ?hyf37⟩) hHeld ?_
    case hyf37 => (intro w hSw; (try dsimp only at hSw); go_simp <;> with_reducible rfl)
    try simp only [Act.put, List.setIfInBounds_toArray, List.set_cons_zero, List.set_cons_succ]
    refine wpAnyH_take (i := 38) (oi := { dst := some 91, op := Op.move (Operand.tmp 90), type := 4, pos := "laws.go:505", after := #[{ on := 37, ground := Ground.data }, { on := 35, ground := Ground.chain }], guard := none }) (v := ?vf38) rfl (by kernel_rfl) (by kernel_rfl) (by kernel_rfl) (fun _ _ _ h => h) (Or.inl ⟨by rfl, ?hyf38⟩) hHeld ?_
    case hyf38 => (intro w hSw; (try dsimp only at hSw); go_simp <;> with_reducible rfl)
    try simp only [Act.put, List.setIfInBounds_toArray, List.set_cons_zero, List.set_cons_succ]
    refine wpAnyH_take (i := 39) (oi := { dst := some 92, op := Op.move (Operand.tmp 15), type := 24, pos := "laws.go:505", after := #[{ on := 38, ground := Ground.guard }], guard := some (38, true) }) (v := ?vf39) rfl (by kernel_rfl) (by kernel_rfl) (by kernel_rfl) (fun _ _ _ h => h) (Or.inl ⟨by rfl, ?hyf39⟩) hHeld ?_
    case hyf39 => (intro w hSw; (try dsimp only at hSw); go_simp <;> with_reducible rfl)
    try simp only [Act.put, List.setIfInBounds_toArray, List.set_cons_zero, List.set_cons_succ]
    refine wpAnyH_take (i := 41) (oi := { dst := some 94, op := Op.move (Operand.tmp 15), type := 24, pos := "laws.go:505", after := #[{ on := 38, ground := Ground.guard }], guard := some (38, true) }) (v := ?vf41) rfl (by kernel_rfl) (by kernel_rfl) (by kernel_rfl) (fun _ _ _ h => h) (Or.inl ⟨by rfl, ?hyf41⟩) hHeld ?_
    case hyf41 => (intro w hSw; (try dsimp only at hSw); go_simp <;> with_reducible rfl)
    try simp only [Act.put, List.setIfInBounds_toArray, List.set_cons_zero, List.set_cons_succ]
    refine wpAnyH_ready (rs := [40]) (by kernel_rfl) (by simp) ?_
    refine AllReadyH.cons (o := { dst := some 93, op := Op.call { callee := Callee.value (Operand.func 12), args := #[Operand.tmp 92], argTypes := #[24] }, type := 24, pos := "laws.go:505", after := #[{ on := 39, ground := Ground.data }, { on := 38, ground := Ground.chain }, { on := 38, ground := Ground.guard }], guard := some (38, true) }) rfl (fun K hK => ?_) AllReadyH.nil
    go_simp
    refine (C40.out _ hHeld.1).mono ?_
    rintro r wvf40 ⟨⟨M40, c40, rfl, hr40⟩, hy⟩
    have HK40 : Hid (OT _ wvf40 M40 c40 (sortT s)) := hr40
    clear hr40
    have hz : Below z8.heap.size z8 wvf40 := grow_on hHeld.1 hy
    clear hHeld hy
    refine hK.out _ _ (HS.out _ hz) (fun hHeld => ?_)
    clear hK K hz
    try simp only [Act.put, List.setIfInBounds_toArray, List.set_cons_zero, List.set_cons_succ]
    refine wpAnyH_ready (rs := [42]) (by kernel_rfl) (by simp) ?_
    refine AllReadyH.cons (o := { dst := some 95, op := Op.call { callee := Callee.value (Operand.func 28), args := #[Operand.tmp 94], argTypes := #[24] }, type := 24, pos := "laws.go:505", after := #[{ on := 41, ground := Ground.data }, { on := 40, ground := Ground.chain }, { on := 38, ground := Ground.guard }], guard := some (38, true) }) rfl (fun K hK => ?_) AllReadyH.nil
    go_simp
    refine (C42.out _ hHeld.1).mono ?_
    rintro r wvf42 ⟨⟨M42, c42, rfl, hr42⟩, hy⟩
    have HK42 : Hid (OT _ wvf42 M42 c42 (sortT s)) := hr42
    clear hr42
    replace HK40 : Hid (OT _ wvf42 M40 c40 (sortT s)) := HK40.out.grow hy
    have hz : Below z8.heap.size z8 wvf42 := grow_on hHeld.1 hy
    clear hHeld hy
    refine hK.out _ _ (HS.out _ hz) (fun hHeld => ?_)
    clear hK K hz
    try simp only [Act.put, List.setIfInBounds_toArray, List.set_cons_zero, List.set_cons_succ]
    refine wpAnyH_ready (rs := [43]) (by kernel_rfl) (by simp) ?_
    refine AllReadyH.cons (o := { dst := some 96, op := Op.call { callee := Callee.value (Operand.func 17), args := #[Operand.tmp 93, Operand.tmp 95], argTypes := #[24, 24] }, type := 4, pos := "laws.go:505", after := #[{ on := 40, ground := Ground.data }, { on := 42, ground := Ground.data }, { on := 42, ground := Ground.chain }, { on := 38, ground := Ground.guard }], guard := some (38, true) }) rfl (fun K hK => ?_) AllReadyH.nil
    go_simp
    refine (sameH_any _ _ _ _ (sortT s) _ HK40.out.rd HK42.out.rd (by rw [sort_length]; have := F7.out; omega)).mono ?_
    rintro r wvf43 ⟨rfl, hy⟩
    have hz : Below z8.heap.size z8 wvf43 := grow_on hHeld.1 hy
    clear hHeld hy
    refine hK.out _ _ (HS.out _ hz) (fun hHeld => ?_)
    clear hK K hz
    try simp only [Act.put, List.setIfInBounds_toArray, List.set_cons_zero, List.set_cons_succ]
    refine wpAnyH_take (i := 44) (oi := { dst := some 97, op := Op.pick (Operand.tmp 91) (Operand.tmp 96) (Operand.const (Value.bool false)), type := 4, pos := "laws.go:505", after := #[{ on := 38, ground := Ground.data }, { on := 43, ground := Ground.data }], guard := none }) (v := ?vf44) rfl (by kernel_rfl) (by kernel_rfl) (by kernel_rfl) (fun _ _ _ h => h) (Or.inl ⟨by rfl, ?hyf44⟩) hHeld ?_
    case hyf44 => (intro w hSw; (try dsimp only at hSw); go_simp <;> with_reducible rfl)
    try simp only [Act.put, List.setIfInBounds_toArray, List.set_cons_zero, List.set_cons_succ]
    refine wpAnyH_take (i := 45) (oi := { dst := some 98, op := Op.move (Operand.tmp 97), type := 4, pos := "laws.go:505", after := #[{ on := 44, ground := Ground.data }, { on := 43, ground := Ground.chain }], guard := none }) (v := ?vf45) rfl (by kernel_rfl) (by kernel_rfl) (by kernel_rfl) (fun _ _ _ h => h) (Or.inl ⟨by rfl, ?hyf45⟩) hHeld ?_
    case hyf45 => (intro w hSw; (try dsimp only at hSw); go_simp <;> with_reducible rfl)
    try simp only [Act.put, List.setIfInBounds_toArray, List.set_cons_zero, List.set_cons_succ]
    refine wpAnyH_take (i := 46) (oi := { dst := some 99, op := Op.load 26 (Operand.tmp 16), type := 26, pos := "laws.go:505", after := #[{ on := 45, ground := Ground.guard }], guard := some (45, true) }) (v := ?vf46) rfl (by kernel_rfl) (by kernel_rfl) (by kernel_rfl) (fun _ _ _ h => h) (Or.inl ⟨by rfl, ?hyf46⟩) hHeld ?_
    case hyf46 => (intro w hSw; (try dsimp only at hSw); go_simp <;> with_reducible rfl)
    try simp only [Act.put, List.setIfInBounds_toArray, List.set_cons_zero, List.set_cons_succ]
    refine wpAnyH_take (i := 47) (oi := { dst := some 100, op := Op.load 26 (Operand.tmp 17), type := 26, pos := "laws.go:505", after := #[{ on := 45, ground := Ground.guard }], guard := some (45, true) }) (v := ?vf47) rfl (by kernel_rfl) (by kernel_rfl) (by kernel_rfl) (fun _ _ _ h => h) (Or.inl ⟨by rfl, ?hyf47⟩) hHeld ?_
    case hyf47 => (intro w hSw; (try dsimp only at hSw); go_simp <;> with_reducible rfl)
    try simp only [Act.put, List.setIfInBounds_toArray, List.set_cons_zero, List.set_cons_succ]
    refine wpAnyH_take (i := 49) (oi := { dst := some 102, op := Op.load 26 (Operand.tmp 16), type := 26, pos := "laws.go:505", after := #[{ on := 45, ground := Ground.guard }], guard := some (45, true) }) (v := ?vf49) rfl (by kernel_rfl) (by kernel_rfl) (by kernel_rfl) (fun _ _ _ h => h) (Or.inl ⟨by rfl, ?hyf49⟩) hHeld ?_
    case hyf49 => (intro w hSw; (try dsimp only at hSw); go_simp <;> with_reducible rfl)
    try simp only [Act.put, List.setIfInBounds_toArray, List.set_cons_zero, List.set_cons_succ]
    refine wpAnyH_take (i := 50) (oi := { dst := some 103, op := Op.load 26 (Operand.tmp 17), type := 26, pos := "laws.go:505", after := #[{ on := 45, ground := Ground.guard }], guard := some (45, true) }) (v := ?vf50) rfl (by kernel_rfl) (by kernel_rfl) (by kernel_rfl) (fun _ _ _ h => h) (Or.inl ⟨by rfl, ?hyf50⟩) hHeld ?_
    case hyf50 => (intro w hSw; (try dsimp only at hSw); go_simp <;> with_reducible rfl)
    try simp only [Act.put, List.setIfInBounds_toArray, List.set_cons_zero, List.set_cons_succ]
    refine wpAnyH_ready (rs := [48]) (by kernel_rfl) (by simp) ?_
    refine AllReadyH.cons (o := { dst := some 101, op := Op.call { callee := Callee.value (Operand.func 16), args := #[Operand.tmp 99, Operand.tmp 100], argTypes := #[26, 26] }, type := 4, pos := "laws.go:505", after := #[{ on := 46, ground := Ground.data }, { on := 47, ground := Ground.data }, { on := 45, ground := Ground.chain }, { on := 45, ground := Ground.guard }], guard := some (45, true) }) rfl (fun K hK => ?_) AllReadyH.nil
    go_simp
    refine (C48.out _ hHeld.1).mono ?_
    rintro r wvf48 ⟨rfl, hy⟩
    have hz : Below z8.heap.size z8 wvf48 := grow_on hHeld.1 hy
    clear hHeld hy
    refine hK.out _ _ (HS.out _ hz) (fun hHeld => ?_)
    clear hK K hz
    try simp only [Act.put, List.setIfInBounds_toArray, List.set_cons_zero, List.set_cons_succ]
    refine wpAnyH_ready (rs := [51]) (by kernel_rfl) (by simp) ?_
    refine AllReadyH.cons (o := { dst := some 104, op := Op.call { callee := Callee.value (Operand.func 29), args := #[Operand.tmp 102, Operand.tmp 103], argTypes := #[26, 26] }, type := 4, pos := "laws.go:505", after := #[{ on := 49, ground := Ground.data }, { on := 50, ground := Ground.data }, { on := 48, ground := Ground.chain }, { on := 45, ground := Ground.guard }], guard := some (45, true) }) rfl (fun K hK => ?_) AllReadyH.nil
    go_simp
    refine (C51.out _ hHeld.1).mono ?_
    rintro r wvf51 ⟨rfl, hy⟩
    have hz : Below z8.heap.size z8 wvf51 := grow_on hHeld.1 hy
    clear hHeld hy
    refine hK.out _ _ (HS.out _ hz) (fun hHeld => ?_)
    clear hK K hz
    try simp only [Act.put, List.setIfInBounds_toArray, List.set_cons_zero, List.set_cons_succ]
    refine wpAnyH_take (i := 52) (oi := { dst := some 105, op := Op.binOp BinOp.eql 4 (Operand.tmp 101) (Operand.tmp 104) 4, type := 4, pos := "laws.go:505", after := #[{ on := 48, ground := Ground.data }, { on := 51, ground := Ground.data }, { on := 45, ground := Ground.guard }], guard := some (45, true) }) (v := ?vf52) rfl (by kernel_rfl) (by kernel_rfl) (by kernel_rfl) (fun _ _ _ h => h) (Or.inl ⟨by rfl, ?hyf52⟩) hHeld ?_
    case hyf52 => (intro w hSw; (try dsimp only at hSw); go_simp <;> with_reducible rfl)
    try simp only [Act.put, List.setIfInBounds_toArray, List.set_cons_zero, List.set_cons_succ]
    refine wpAnyH_take (i := 53) (oi := { dst := some 106, op := Op.pick (Operand.tmp 98) (Operand.tmp 105) (Operand.const (Value.bool false)), type := 4, pos := "laws.go:505", after := #[{ on := 45, ground := Ground.data }, { on := 52, ground := Ground.data }], guard := none }) (v := ?vf53) rfl (by kernel_rfl) (by kernel_rfl) (by kernel_rfl) (fun _ _ _ h => h) (Or.inl ⟨by rfl, ?hyf53⟩) hHeld ?_
    case hyf53 => (intro w hSw; (try dsimp only at hSw); go_simp <;> with_reducible rfl)
    try simp only [Act.put, List.setIfInBounds_toArray, List.set_cons_zero, List.set_cons_succ]
    refine wpAnyH_take (i := 54) (oi := { dst := some 107, op := Op.move (Operand.tmp 106), type := 4, pos := "laws.go:505", after := #[{ on := 53, ground := Ground.data }, { on := 51, ground := Ground.chain }], guard := none }) (v := ?vf54) rfl (by kernel_rfl) (by kernel_rfl) (by kernel_rfl) (fun _ _ _ h => h) (Or.inl ⟨by rfl, ?hyf54⟩) hHeld ?_
    case hyf54 => (intro w hSw; (try dsimp only at hSw); go_simp <;> with_reducible rfl)
    try simp only [Act.put, List.setIfInBounds_toArray, List.set_cons_zero, List.set_cons_succ]
    refine wpAnyH_take (i := 55) (oi := { dst := some 108, op := Op.load 26 (Operand.tmp 16), type := 26, pos := "laws.go:505", after := #[{ on := 54, ground := Ground.guard }], guard := some (54, true) }) (v := ?vf55) rfl (by kernel_rfl) (by kernel_rfl) (by kernel_rfl) (fun _ _ _ h => h) (Or.inl ⟨by rfl, ?hyf55⟩) hHeld ?_
    case hyf55 => (intro w hSw; (try dsimp only at hSw); go_simp <;> with_reducible rfl)
    try simp only [Act.put, List.setIfInBounds_toArray, List.set_cons_zero, List.set_cons_succ]
    refine wpAnyH_take (i := 56) (oi := { dst := some 109, op := Op.load 26 (Operand.tmp 17), type := 26, pos := "laws.go:505", after := #[{ on := 54, ground := Ground.guard }], guard := some (54, true) }) (v := ?vf56) rfl (by kernel_rfl) (by kernel_rfl) (by kernel_rfl) (fun _ _ _ h => h) (Or.inl ⟨by rfl, ?hyf56⟩) hHeld ?_
    case hyf56 => (intro w hSw; (try dsimp only at hSw); go_simp <;> with_reducible rfl)
    try simp only [Act.put, List.setIfInBounds_toArray, List.set_cons_zero, List.set_cons_succ]
    refine wpAnyH_ready (rs := [57]) (by kernel_rfl) (by simp) ?_
    refine AllReadyH.cons (o := { dst := some 110, op := Op.call { callee := Callee.value (Operand.func 16), args := #[Operand.tmp 108, Operand.tmp 109], argTypes := #[26, 26] }, type := 4, pos := "laws.go:505", after := #[{ on := 55, ground := Ground.data }, { on := 56, ground := Ground.data }, { on := 54, ground := Ground.chain }, { on := 54, ground := Ground.guard }], guard := some (54, true) }) rfl (fun K hK => ?_) AllReadyH.nil
    go_simp
    refine (C48.out _ hHeld.1).mono ?_
    rintro r wvf57 ⟨rfl, hy⟩
    have hz : Below z8.heap.size z8 wvf57 := grow_on hHeld.1 hy
    clear hHeld hy
    refine hK.out _ _ (HS.out _ hz) (fun hHeld => ?_)
    clear hK K hz
    try simp only [Act.put, List.setIfInBounds_toArray, List.set_cons_zero, List.set_cons_succ]
    refine wpAnyH_take (i := 58) (oi := { dst := some 111, op := Op.move (Operand.tmp 110), type := 4, pos := "laws.go:505", after := #[{ on := 57, ground := Ground.data }, { on := 57, ground := Ground.chain }, { on := 54, ground := Ground.guard }], guard := some (54, true) }) (v := ?vf58) rfl (by kernel_rfl) (by kernel_rfl) (by kernel_rfl) (fun _ _ _ h => h) (Or.inl ⟨by rfl, ?hyf58⟩) hHeld ?_
    case hyf58 => (intro w hSw; (try dsimp only at hSw); go_simp <;> with_reducible rfl)
    try simp only [Act.put, List.setIfInBounds_toArray, List.set_cons_zero, List.set_cons_succ]
    refine wpAnyH_take (i := 59) (oi := { dst := some 112, op := Op.load 26 (Operand.tmp 17), type := 26, pos := "laws.go:505", after := #[{ on := 58, ground := Ground.guard }], guard := some (58, true) }) (v := undef) rfl (by kernel_rfl) (by kernel_rfl) (by kernel_rfl) (fun _ _ _ h => h) (Or.inr ⟨by rfl, rfl⟩) hHeld ?_
    try simp only [Act.put, List.setIfInBounds_toArray, List.set_cons_zero, List.set_cons_succ]
    refine wpAnyH_take (i := 60) (oi := { dst := some 113, op := Op.load 26 (Operand.tmp 16), type := 26, pos := "laws.go:505", after := #[{ on := 58, ground := Ground.guard }], guard := some (58, true) }) (v := undef) rfl (by kernel_rfl) (by kernel_rfl) (by kernel_rfl) (fun _ _ _ h => h) (Or.inr ⟨by rfl, rfl⟩) hHeld ?_
    try simp only [Act.put, List.setIfInBounds_toArray, List.set_cons_zero, List.set_cons_succ]
    refine wpAnyH_ready (rs := [61]) (by kernel_rfl) (by simp) ?_
    refine AllReadyH.cons (o := { dst := some 114, op := Op.call { callee := Callee.value (Operand.func 16), args := #[Operand.tmp 112, Operand.tmp 113], argTypes := #[26, 26] }, type := 4, pos := "laws.go:505", after := #[{ on := 59, ground := Ground.data }, { on := 60, ground := Ground.data }, { on := 58, ground := Ground.chain }, { on := 58, ground := Ground.guard }], guard := some (58, true) }) rfl (fun K hK => ?_) AllReadyH.nil
    go_simp
    refine hK.out _ _ hHeld (fun hHeld => ?_)
    clear hK K
    try simp only [Act.put, List.setIfInBounds_toArray, List.set_cons_zero, List.set_cons_succ]
    refine wpAnyH_take (i := 62) (oi := { dst := some 115, op := Op.pick (Operand.tmp 111) (Operand.tmp 114) (Operand.const (Value.bool false)), type := 4, pos := "laws.go:505", after := #[{ on := 58, ground := Ground.data }, { on := 61, ground := Ground.data }, { on := 54, ground := Ground.guard }], guard := some (54, true) }) (v := ?vf62) rfl (by kernel_rfl) (by kernel_rfl) (by kernel_rfl) (fun _ _ _ h => h) (Or.inl ⟨by rfl, ?hyf62⟩) hHeld ?_
    case hyf62 => (intro w hSw; (try dsimp only at hSw); go_simp <;> with_reducible rfl)
    try simp only [Act.put, List.setIfInBounds_toArray, List.set_cons_zero, List.set_cons_succ]
    refine wpAnyH_take (i := 63) (oi := { dst := some 116, op := Op.unOp UnOp.not 4 (Operand.tmp 115), type := 4, pos := "laws.go:505", after := #[{ on := 62, ground := Ground.data }, { on := 54, ground := Ground.guard }], guard := some (54, true) }) (v := ?vf63) rfl (by kernel_rfl) (by kernel_rfl) (by kernel_rfl) (fun _ _ _ h => h) (Or.inl ⟨by rfl, ?hyf63⟩) hHeld ?_
    case hyf63 => (intro w hSw; (try dsimp only at hSw); go_simp <;> with_reducible rfl)
    try simp only [Act.put, List.setIfInBounds_toArray, List.set_cons_zero, List.set_cons_succ]
    refine wpAnyH_take (i := 64) (oi := { dst := some 117, op := Op.pick (Operand.tmp 107) (Operand.tmp 116) (Operand.const (Value.bool false)), type := 4, pos := "laws.go:505", after := #[{ on := 54, ground := Ground.data }, { on := 63, ground := Ground.data }], guard := none }) (v := ?vf64) rfl (by kernel_rfl) (by kernel_rfl) (by kernel_rfl) (fun _ _ _ h => h) (Or.inl ⟨by rfl, ?hyf64⟩) hHeld ?_
    case hyf64 => (intro w hSw; (try dsimp only at hSw); go_simp <;> with_reducible rfl)
    try simp only [Act.put, List.setIfInBounds_toArray, List.set_cons_zero, List.set_cons_succ]
    refine wpAnyH_take (i := 65) (oi := { dst := some 118, op := Op.move (Operand.tmp 117), type := 4, pos := "laws.go:505", after := #[{ on := 64, ground := Ground.data }, { on := 61, ground := Ground.chain }], guard := none }) (v := ?vf65) rfl (by kernel_rfl) (by kernel_rfl) (by kernel_rfl) (fun _ _ _ h => h) (Or.inl ⟨by rfl, ?hyf65⟩) hHeld ?_
    case hyf65 => (intro w hSw; (try dsimp only at hSw); go_simp <;> with_reducible rfl)
    try simp only [Act.put, List.setIfInBounds_toArray, List.set_cons_zero, List.set_cons_succ]
    refine wpAnyH_take (i := 66) (oi := { dst := some 119, op := Op.move (Operand.tmp 3), type := 24, pos := "laws.go:505", after := #[{ on := 65, ground := Ground.guard }], guard := some (65, true) }) (v := ?vf66) rfl (by kernel_rfl) (by kernel_rfl) (by kernel_rfl) (fun _ _ _ h => h) (Or.inl ⟨by rfl, ?hyf66⟩) hHeld ?_
    case hyf66 => (intro w hSw; (try dsimp only at hSw); go_simp <;> with_reducible rfl)
    try simp only [Act.put, List.setIfInBounds_toArray, List.set_cons_zero, List.set_cons_succ]
    refine wpAnyH_take (i := 67) (oi := { dst := some 120, op := Op.load 26 (Operand.tmp 4), type := 26, pos := "laws.go:505", after := #[{ on := 65, ground := Ground.guard }], guard := some (65, true) }) (v := ?vf67) rfl (by kernel_rfl) (by kernel_rfl) (by kernel_rfl) (fun _ _ _ h => h) (Or.inl ⟨by rfl, ?hyf67⟩) hHeld ?_
    case hyf67 => (intro w hSw; (try dsimp only at hSw); go_simp <;> with_reducible rfl)
    try simp only [Act.put, List.setIfInBounds_toArray, List.set_cons_zero, List.set_cons_succ]
    refine wpAnyH_take (i := 70) (oi := { dst := some 123, op := Op.move (Operand.tmp 3), type := 24, pos := "laws.go:505", after := #[{ on := 65, ground := Ground.guard }], guard := some (65, true) }) (v := ?vf70) rfl (by kernel_rfl) (by kernel_rfl) (by kernel_rfl) (fun _ _ _ h => h) (Or.inl ⟨by rfl, ?hyf70⟩) hHeld ?_
    case hyf70 => (intro w hSw; (try dsimp only at hSw); go_simp <;> with_reducible rfl)
    try simp only [Act.put, List.setIfInBounds_toArray, List.set_cons_zero, List.set_cons_succ]
    refine wpAnyH_take (i := 71) (oi := { dst := some 124, op := Op.call { callee := Callee.builtin Builtin.len, args := #[Operand.tmp 123], argTypes := #[24] }, type := 3, pos := "laws.go:505", after := #[{ on := 70, ground := Ground.data }, { on := 65, ground := Ground.guard }], guard := some (65, true) }) (v := ?vf71) rfl (by kernel_rfl) (by kernel_rfl) (by kernel_rfl) (fun _ _ _ h => h) (Or.inl ⟨by rfl, ?hyf71⟩) hHeld ?_
    case hyf71 => (intro w hSw; (try dsimp only at hSw); go_simp <;> with_reducible rfl)
    try simp only [Act.put, List.setIfInBounds_toArray, List.set_cons_zero, List.set_cons_succ]
    refine wpAnyH_take (i := 72) (oi := { dst := some 125, op := Op.binOp BinOp.add 3 (Operand.tmp 124) (Operand.const (Value.int IntKind.i64 1)) 3, type := 3, pos := "laws.go:505", after := #[{ on := 71, ground := Ground.data }, { on := 65, ground := Ground.guard }], guard := some (65, true) }) (v := ?vf72) rfl (by kernel_rfl) (by kernel_rfl) (by kernel_rfl) (fun _ _ _ h => h) (Or.inl ⟨by rfl, ?hyf72⟩) hHeld ?_
    case hyf72 => (intro w hSw; (try dsimp only at hSw); go_simp <;> with_reducible rfl)
    try simp only [Act.put, List.setIfInBounds_toArray, List.set_cons_zero, List.set_cons_succ]
    refine wpAnyH_ready (rs := [68]) (by kernel_rfl) (by simp) ?_
    refine AllReadyH.cons (o := { dst := some 121, op := Op.call { callee := Callee.value (Operand.func 11), args := #[Operand.tmp 119, Operand.tmp 120], argTypes := #[24, 26] }, type := 24, pos := "laws.go:505", after := #[{ on := 66, ground := Ground.data }, { on := 67, ground := Ground.data }, { on := 65, ground := Ground.chain }, { on := 65, ground := Ground.guard }], guard := some (65, true) }) rfl (fun K hK => ?_) AllReadyH.nil
    go_simp
    refine (C2.out _ hHeld.1).mono ?_
    rintro r wvf68 ⟨⟨M68, c68, rfl, -⟩, hy⟩
    have hz : Below z8.heap.size z8 wvf68 := grow_on hHeld.1 hy
    clear hHeld hy
    refine hK.out _ _ (HS.out _ hz) (fun hHeld => ?_)
    clear hK K hz
    try simp only [Act.put, List.setIfInBounds_toArray, List.set_cons_zero, List.set_cons_succ]
    refine wpAnyH_take (i := 69) (oi := { dst := some 122, op := Op.call { callee := Callee.builtin Builtin.len, args := #[Operand.tmp 121], argTypes := #[24] }, type := 3, pos := "laws.go:505", after := #[{ on := 68, ground := Ground.data }, { on := 65, ground := Ground.guard }], guard := some (65, true) }) (v := ?vf69) rfl (by kernel_rfl) (by kernel_rfl) (by kernel_rfl) (fun _ _ _ h => h) (Or.inl ⟨by rfl, ?hyf69⟩) hHeld ?_
    case hyf69 => (intro w hSw; (try dsimp only at hSw); go_simp <;> with_reducible rfl)
    try simp only [Act.put, List.setIfInBounds_toArray, List.set_cons_zero, List.set_cons_succ]
    refine wpAnyH_take (i := 73) (oi := { dst := some 126, op := Op.binOp BinOp.eql 3 (Operand.tmp 122) (Operand.tmp 125) 3, type := 4, pos := "laws.go:505", after := #[{ on := 69, ground := Ground.data }, { on := 72, ground := Ground.data }, { on := 65, ground := Ground.guard }], guard := some (65, true) }) (v := ?vf73) rfl (by kernel_rfl) (by kernel_rfl) (by kernel_rfl) (fun _ _ _ h => h) (Or.inl ⟨by rfl, ?hyf73⟩) hHeld ?_
    case hyf73 => (intro w hSw; (try dsimp only at hSw); go_simp <;> with_reducible rfl)
    try simp only [Act.put, List.setIfInBounds_toArray, List.set_cons_zero, List.set_cons_succ]
    refine wpAnyH_take (i := 74) (oi := { dst := some 127, op := Op.pick (Operand.tmp 118) (Operand.tmp 126) (Operand.const (Value.bool false)), type := 4, pos := "laws.go:505", after := #[{ on := 65, ground := Ground.data }, { on := 73, ground := Ground.data }], guard := none }) (v := ?vf74) rfl (by kernel_rfl) (by kernel_rfl) (by kernel_rfl) (fun _ _ _ h => h) (Or.inl ⟨by rfl, ?hyf74⟩) hHeld ?_
    case hyf74 => (intro w hSw; (try dsimp only at hSw); go_simp <;> with_reducible rfl)
    try simp only [Act.put, List.setIfInBounds_toArray, List.set_cons_zero, List.set_cons_succ]
    refine wpAnyH_take (i := 75) (oi := { dst := some 2, op := Op.assign (Operand.tmp 127), type := 4, pos := "laws.go:505", after := #[{ on := 74, ground := Ground.data }, { on := 68, ground := Ground.chain }, { on := 0, ground := Ground.phase }, { on := 1, ground := Ground.phase }, { on := 2, ground := Ground.phase }, { on := 3, ground := Ground.phase }, { on := 4, ground := Ground.phase }, { on := 5, ground := Ground.phase }, { on := 6, ground := Ground.phase }, { on := 7, ground := Ground.phase }, { on := 8, ground := Ground.phase }, { on := 9, ground := Ground.phase }, { on := 10, ground := Ground.phase }, { on := 11, ground := Ground.phase }, { on := 12, ground := Ground.phase }, { on := 13, ground := Ground.phase }, { on := 14, ground := Ground.phase }, { on := 15, ground := Ground.phase }, { on := 16, ground := Ground.phase }, { on := 17, ground := Ground.phase }, { on := 18, ground := Ground.phase }, { on := 19, ground := Ground.phase }, { on := 20, ground := Ground.phase }, { on := 21, ground := Ground.phase }, { on := 22, ground := Ground.phase }, { on := 23, ground := Ground.phase }, { on := 24, ground := Ground.phase }, { on := 25, ground := Ground.phase }, { on := 26, ground := Ground.phase }, { on := 27, ground := Ground.phase }, { on := 28, ground := Ground.phase }, { on := 29, ground := Ground.phase }, { on := 30, ground := Ground.phase }, { on := 31, ground := Ground.phase }, { on := 32, ground := Ground.phase }, { on := 33, ground := Ground.phase }, { on := 34, ground := Ground.phase }, { on := 35, ground := Ground.phase }, { on := 36, ground := Ground.phase }, { on := 37, ground := Ground.phase }, { on := 38, ground := Ground.phase }, { on := 39, ground := Ground.phase }, { on := 40, ground := Ground.phase }, { on := 41, ground := Ground.phase }, { on := 42, ground := Ground.phase }, { on := 43, ground := Ground.phase }, { on := 44, ground := Ground.phase }, { on := 45, ground := Ground.phase }, { on := 46, ground := Ground.phase }, { on := 47, ground := Ground.phase }, { on := 48, ground := Ground.phase }, { on := 49, ground := Ground.phase }, { on := 50, ground := Ground.phase }, { on := 51, ground := Ground.phase }, { on := 52, ground := Ground.phase }, { on := 53, ground := Ground.phase }, { on := 54, ground := Ground.phase }, { on := 55, ground := Ground.phase }, { on := 56, ground := Ground.phase }, { on := 57, ground := Ground.phase }, { on := 58, ground := Ground.phase }, { on := 59, ground := Ground.phase }, { on := 60, ground := Ground.phase }, { on := 61, ground := Ground.phase }, { on := 62, ground := Ground.phase }, { on := 63, ground := Ground.phase }, { on := 64, ground := Ground.phase }, { on := 65, ground := Ground.phase }, { on := 66, ground := Ground.phase }, { on := 67, ground := Ground.phase }, { on := 68, ground := Ground.phase }, { on := 69, ground := Ground.phase }, { on := 70, ground := Ground.phase }, { on := 71, ground := Ground.phase }, { on := 72, ground := Ground.phase }, { on := 73, ground := Ground.phase }, { on := 74, ground := Ground.phase }], guard := none }) (v := ?vf75) rfl (by kernel_rfl) (by kernel_rfl) (by kernel_rfl) (fun _ _ _ h => h) (Or.inl ⟨by rfl, ?hyf75⟩) hHeld ?_
    case hyf75 => (intro w hSw; (try dsimp only at hSw); go_simp <;> with_reducible rfl)
    try simp only [Act.put, List.setIfInBounds_toArray, List.set_cons_zero, List.set_cons_succ]
    refine wpAnyH_done (by kernel_rfl) ?_ _
    have HBZ : Hid (Below w.heap.size w wvf68) := grow_on B_z8.out hHeld.1
    clear hHeld HS
    go_wp2
    go_ret
    exact ⟨Go.Proofs.Ytcjhieknmblbbaa.LawB.retB HLE.out, HBZ.out⟩
  | true =>
    have C61 : Hid (∀ (u0 : World), Below z8.heap.size z8 u0 → Calls Try.prog 16 #[.agg #[.int .i64 v.1, .int .i64 v.2], .agg #[.int .i64 u.1, .int .i64 u.2]] u0 fun e w' => e = .returned (.bool false) ∧ Below u0.heap.size u0 w') := fun u0 hu => by rw [← FA.out hbb]; exact implBefore_any v u u0
    have HS : Hid (∀ w', Below z8.heap.size z8 w' → Below z8.heap.size z8 w' ∧ w'.cell? ⟨w1.heap.size, 0, none⟩ = some (.int .i64 x.1) ∧ w'.cell? ⟨w1.heap.size, 1, none⟩ = some (.int .i64 x.2) ∧ w'.cell? ⟨w3.heap.size, 0, none⟩ = some (.int .i64 (fstT m).1) ∧ w'.cell? ⟨w3.heap.size, 1, none⟩ = some (.int .i64 (fstT m).2) ∧ w'.cell? ⟨w4.heap.size, 0, none⟩ = some (.int .i64 (fstT m).1) ∧ w'.cell? ⟨w4.heap.size, 1, none⟩ = some (.int .i64 (fstT m).2) ∧ w'.cell? ⟨w8.heap.size, 0, none⟩ = some (.int .i64 u.1) ∧ w'.cell? ⟨w8.heap.size, 1, none⟩ = some (.int .i64 u.2) ∧ w'.cell? ⟨(w8.heap.size + 1), 0, none⟩ = some (.int .i64 v.1) ∧ w'.cell? ⟨(w8.heap.size + 1), 1, none⟩ = some (.int .i64 v.2)) := fun w' h => ⟨h, (bT_z8.out.grow h).cell 0, (bT_z8.out.grow h).cell 1, (bA_z8.out.grow h).cell 0, (bA_z8.out.grow h).cell 1, (bB_z8.out.grow h).cell 0, (bB_z8.out.grow h).cell 1, (bU_z8.out.grow h).cell 0, (bU_z8.out.grow h).cell 1, (bV_z8.out.grow h).cell 0, (bV_z8.out.grow h).cell 1⟩
    go_upto_region 11 with fail
    refine wp_region_held_drew (S := fun w' => Below z8.heap.size z8 w' ∧ w'.cell? ⟨w1.heap.size, 0, none⟩ = some (.int .i64 x.1) ∧ w'.cell? ⟨w1.heap.size, 1, none⟩ = some (.int .i64 x.2) ∧ w'.cell? ⟨w3.heap.size, 0, none⟩ = some (.int .i64 (fstT m).1) ∧ w'.cell? ⟨w3.heap.size, 1, none⟩ = some (.int .i64 (fstT m).2) ∧ w'.cell? ⟨w4.heap.size, 0, none⟩ = some (.int .i64 (fstT m).1) ∧ w'.cell? ⟨w4.heap.size, 1, none⟩ = some (.int .i64 (fstT m).2) ∧ w'.cell? ⟨w8.heap.size, 0, none⟩ = some (.int .i64 u.1) ∧ w'.cell? ⟨w8.heap.size, 1, none⟩ = some (.int .i64 u.2) ∧ w'.cell? ⟨(w8.heap.size + 1), 0, none⟩ = some (.int .i64 v.1) ∧ w'.cell? ⟨(w8.heap.size + 1), 1, none⟩ = some (.int .i64 v.2)) (by kernel_rfl) (HS.out _ (Below.refl _ _).drew) (fun hHeld => ?_)
    refine wpAnyH_take (i := 0) (oi := { dst := some 53, op := Op.move (Operand.tmp 3), type := 24, pos := "laws.go:505", after := #[], guard := none }) (v := ?vt0) rfl (by kernel_rfl) (by kernel_rfl) (by kernel_rfl) (fun _ _ _ h => h) (Or.inl ⟨by rfl, ?hyt0⟩) hHeld ?_
    case hyt0 => (intro w hSw; (try dsimp only at hSw); go_simp <;> with_reducible rfl)
    try simp only [Act.put, List.setIfInBounds_toArray, List.set_cons_zero, List.set_cons_succ]
    refine wpAnyH_take (i := 1) (oi := { dst := some 54, op := Op.load 26 (Operand.tmp 4), type := 26, pos := "laws.go:505", after := #[], guard := none }) (v := ?vt1) rfl (by kernel_rfl) (by kernel_rfl) (by kernel_rfl) (fun _ _ _ h => h) (Or.inl ⟨by rfl, ?hyt1⟩) hHeld ?_
    case hyt1 => (intro w hSw; (try dsimp only at hSw); go_simp <;> with_reducible rfl)
    try simp only [Act.put, List.setIfInBounds_toArray, List.set_cons_zero, List.set_cons_succ]
    refine wpAnyH_take (i := 3) (oi := { dst := some 56, op := Op.move (Operand.tmp 3), type := 24, pos := "laws.go:505", after := #[], guard := none }) (v := ?vt3) rfl (by kernel_rfl) (by kernel_rfl) (by kernel_rfl) (fun _ _ _ h => h) (Or.inl ⟨by rfl, ?hyt3⟩) hHeld ?_
    case hyt3 => (intro w hSw; (try dsimp only at hSw); go_simp <;> with_reducible rfl)
    try simp only [Act.put, List.setIfInBounds_toArray, List.set_cons_zero, List.set_cons_succ]
    refine wpAnyH_take (i := 4) (oi := { dst := some 57, op := Op.load 26 (Operand.tmp 4), type := 26, pos := "laws.go:505", after := #[], guard := none }) (v := ?vt4) rfl (by kernel_rfl) (by kernel_rfl) (by kernel_rfl) (fun _ _ _ h => h) (Or.inl ⟨by rfl, ?hyt4⟩) hHeld ?_
    case hyt4 => (intro w hSw; (try dsimp only at hSw); go_simp <;> with_reducible rfl)
    try simp only [Act.put, List.setIfInBounds_toArray, List.set_cons_zero, List.set_cons_succ]
    refine wpAnyH_ready (rs := [2]) (by kernel_rfl) (by simp) ?_
    refine AllReadyH.cons (o := { dst := some 55, op := Op.call { callee := Callee.value (Operand.func 11), args := #[Operand.tmp 53, Operand.tmp 54], argTypes := #[24, 26] }, type := 24, pos := "laws.go:505", after := #[{ on := 0, ground := Ground.data }, { on := 1, ground := Ground.data }], guard := none }) rfl (fun K hK => ?_) AllReadyH.nil
    go_simp
    refine (C2.out _ hHeld.1).mono ?_
    rintro r wvt2 ⟨⟨M2, c2, rfl, hr2⟩, hy⟩
    have HK2 : Hid (OT _ wvt2 M2 c2 (putT l x)) := hr2
    clear hr2
    have hz : Below z8.heap.size z8 wvt2 := grow_on hHeld.1 hy
    clear hHeld hy
    refine hK.out _ _ (HS.out _ hz) (fun hHeld => ?_)
    clear hK K hz
    try simp only [Act.put, List.setIfInBounds_toArray, List.set_cons_zero, List.set_cons_succ]
    refine wpAnyH_ready (rs := [5]) (by kernel_rfl) (by simp) ?_
    refine AllReadyH.cons (o := { dst := some 58, op := Op.call { callee := Callee.value (Operand.func 25), args := #[Operand.tmp 56, Operand.tmp 57], argTypes := #[24, 26] }, type := 24, pos := "laws.go:505", after := #[{ on := 3, ground := Ground.data }, { on := 4, ground := Ground.data }, { on := 2, ground := Ground.chain }], guard := none }) rfl (fun K hK => ?_) AllReadyH.nil
    go_simp
    refine (C5.out _ hHeld.1).mono ?_
    rintro r wvt5 ⟨⟨M5, c5, rfl, hr5⟩, hy⟩
    have HK5 : Hid (OT _ wvt5 M5 c5 (putT l x)) := hr5
    clear hr5
    replace HK2 : Hid (OT _ wvt5 M2 c2 (putT l x)) := HK2.out.grow hy
    have hz : Below z8.heap.size z8 wvt5 := grow_on hHeld.1 hy
    clear hHeld hy
    refine hK.out _ _ (HS.out _ hz) (fun hHeld => ?_)
    clear hK K hz
    try simp only [Act.put, List.setIfInBounds_toArray, List.set_cons_zero, List.set_cons_succ]
    refine wpAnyH_ready (rs := [6]) (by kernel_rfl) (by simp) ?_
    refine AllReadyH.cons (o := { dst := some 59, op := Op.call { callee := Callee.value (Operand.func 17), args := #[Operand.tmp 55, Operand.tmp 58], argTypes := #[24, 24] }, type := 4, pos := "laws.go:505", after := #[{ on := 2, ground := Ground.data }, { on := 5, ground := Ground.data }, { on := 5, ground := Ground.chain }], guard := none }) rfl (fun K hK => ?_) AllReadyH.nil
    go_simp
    refine (sameH_any _ _ _ _ (putT l x) _ HK2.out.rd HK5.out.rd (by rw [put_len]; have := F1.out; omega)).mono ?_
    rintro r wvt6 ⟨rfl, hy⟩
    have hz : Below z8.heap.size z8 wvt6 := grow_on hHeld.1 hy
    clear hHeld hy
    refine hK.out _ _ (HS.out _ hz) (fun hHeld => ?_)
    clear hK K hz
    try simp only [Act.put, List.setIfInBounds_toArray, List.set_cons_zero, List.set_cons_succ]
    refine wpAnyH_take (i := 7) (oi := { dst := some 60, op := Op.move (Operand.tmp 59), type := 4, pos := "laws.go:505", after := #[{ on := 6, ground := Ground.data }, { on := 6, ground := Ground.chain }], guard := none }) (v := ?vt7) rfl (by kernel_rfl) (by kernel_rfl) (by kernel_rfl) (fun _ _ _ h => h) (Or.inl ⟨by rfl, ?hyt7⟩) hHeld ?_
    case hyt7 => (intro w hSw; (try dsimp only at hSw); go_simp <;> with_reducible rfl)
    try simp only [Act.put, List.setIfInBounds_toArray, List.set_cons_zero, List.set_cons_succ]
    refine wpAnyH_take (i := 8) (oi := { dst := some 61, op := Op.move (Operand.tmp 6), type := 24, pos := "laws.go:505", after := #[{ on := 7, ground := Ground.guard }], guard := some (7, true) }) (v := ?vt8) rfl (by kernel_rfl) (by kernel_rfl) (by kernel_rfl) (fun _ _ _ h => h) (Or.inl ⟨by rfl, ?hyt8⟩) hHeld ?_
    case hyt8 => (intro w hSw; (try dsimp only at hSw); go_simp <;> with_reducible rfl)
    try simp only [Act.put, List.setIfInBounds_toArray, List.set_cons_zero, List.set_cons_succ]
    refine wpAnyH_take (i := 9) (oi := { dst := some 62, op := Op.move (Operand.tmp 9), type := 24, pos := "laws.go:505", after := #[{ on := 7, ground := Ground.guard }], guard := some (7, true) }) (v := ?vt9) rfl (by kernel_rfl) (by kernel_rfl) (by kernel_rfl) (fun _ _ _ h => h) (Or.inl ⟨by rfl, ?hyt9⟩) hHeld ?_
    case hyt9 => (intro w hSw; (try dsimp only at hSw); go_simp <;> with_reducible rfl)
    try simp only [Act.put, List.setIfInBounds_toArray, List.set_cons_zero, List.set_cons_succ]
    refine wpAnyH_ready (rs := [10]) (by kernel_rfl) (by simp) ?_
    refine AllReadyH.cons (o := { dst := some 63, op := Op.call { callee := Callee.value (Operand.func 17), args := #[Operand.tmp 61, Operand.tmp 62], argTypes := #[24, 24] }, type := 4, pos := "laws.go:505", after := #[{ on := 8, ground := Ground.data }, { on := 9, ground := Ground.data }, { on := 7, ground := Ground.chain }, { on := 7, ground := Ground.guard }], guard := some (7, true) }) rfl (fun K hK => ?_) AllReadyH.nil
    go_simp
    refine (C10.out _ hHeld.1).mono ?_
    rintro r wvt10 ⟨rfl, hy⟩
    have hz : Below z8.heap.size z8 wvt10 := grow_on hHeld.1 hy
    clear hHeld hy
    refine hK.out _ _ (HS.out _ hz) (fun hHeld => ?_)
    clear hK K hz
    try simp only [Act.put, List.setIfInBounds_toArray, List.set_cons_zero, List.set_cons_succ]
    refine wpAnyH_take (i := 11) (oi := { dst := some 64, op := Op.pick (Operand.tmp 60) (Operand.tmp 63) (Operand.const (Value.bool false)), type := 4, pos := "laws.go:505", after := #[{ on := 7, ground := Ground.data }, { on := 10, ground := Ground.data }], guard := none }) (v := ?vt11) rfl (by kernel_rfl) (by kernel_rfl) (by kernel_rfl) (fun _ _ _ h => h) (Or.inl ⟨by rfl, ?hyt11⟩) hHeld ?_
    case hyt11 => (intro w hSw; (try dsimp only at hSw); go_simp <;> with_reducible rfl)
    try simp only [Act.put, List.setIfInBounds_toArray, List.set_cons_zero, List.set_cons_succ]
    refine wpAnyH_take (i := 12) (oi := { dst := some 65, op := Op.move (Operand.tmp 64), type := 4, pos := "laws.go:505", after := #[{ on := 11, ground := Ground.data }, { on := 10, ground := Ground.chain }], guard := none }) (v := ?vt12) rfl (by kernel_rfl) (by kernel_rfl) (by kernel_rfl) (fun _ _ _ h => h) (Or.inl ⟨by rfl, ?hyt12⟩) hHeld ?_
    case hyt12 => (intro w hSw; (try dsimp only at hSw); go_simp <;> with_reducible rfl)
    try simp only [Act.put, List.setIfInBounds_toArray, List.set_cons_zero, List.set_cons_succ]
    refine wpAnyH_take (i := 13) (oi := { dst := some 66, op := Op.load 26 (Operand.tmp 7), type := 26, pos := "laws.go:505", after := #[{ on := 12, ground := Ground.guard }], guard := some (12, true) }) (v := ?vt13) rfl (by kernel_rfl) (by kernel_rfl) (by kernel_rfl) (fun _ _ _ h => h) (Or.inl ⟨by rfl, ?hyt13⟩) hHeld ?_
    case hyt13 => (intro w hSw; (try dsimp only at hSw); go_simp <;> with_reducible rfl)
    try simp only [Act.put, List.setIfInBounds_toArray, List.set_cons_zero, List.set_cons_succ]
    refine wpAnyH_take (i := 14) (oi := { dst := some 67, op := Op.load 26 (Operand.tmp 10), type := 26, pos := "laws.go:505", after := #[{ on := 12, ground := Ground.guard }], guard := some (12, true) }) (v := ?vt14) rfl (by kernel_rfl) (by kernel_rfl) (by kernel_rfl) (fun _ _ _ h => h) (Or.inl ⟨by rfl, ?hyt14⟩) hHeld ?_
    case hyt14 => (intro w hSw; (try dsimp only at hSw); go_simp <;> with_reducible rfl)
    try simp only [Act.put, List.setIfInBounds_toArray, List.set_cons_zero, List.set_cons_succ]
    refine wpAnyH_take (i := 15) (oi := { dst := some 68, op := Op.binOp BinOp.eql 26 (Operand.tmp 66) (Operand.tmp 67) 26, type := 4, pos := "laws.go:505", after := #[{ on := 13, ground := Ground.data }, { on := 14, ground := Ground.data }, { on := 12, ground := Ground.guard }], guard := some (12, true) }) (v := ?vt15) rfl (by kernel_rfl) (by kernel_rfl) (by kernel_rfl) (fun _ _ _ h => h) (Or.inl ⟨by rfl, ?hyt15⟩) hHeld ?_
    case hyt15 => (intro w hSw; (try dsimp only at hSw); go_simp <;> with_reducible rfl)
    try simp only [Act.put, List.setIfInBounds_toArray, List.set_cons_zero, List.set_cons_succ]
    refine wpAnyH_take (i := 16) (oi := { dst := some 69, op := Op.pick (Operand.tmp 65) (Operand.tmp 68) (Operand.const (Value.bool false)), type := 4, pos := "laws.go:505", after := #[{ on := 12, ground := Ground.data }, { on := 15, ground := Ground.data }], guard := none }) (v := ?vt16) rfl (by kernel_rfl) (by kernel_rfl) (by kernel_rfl) (fun _ _ _ h => h) (Or.inl ⟨by rfl, ?hyt16⟩) hHeld ?_
    case hyt16 => (intro w hSw; (try dsimp only at hSw); go_simp <;> with_reducible rfl)
    try simp only [Act.put, List.setIfInBounds_toArray, List.set_cons_zero, List.set_cons_succ]
    refine wpAnyH_take (i := 17) (oi := { dst := some 70, op := Op.move (Operand.tmp 69), type := 4, pos := "laws.go:505", after := #[{ on := 16, ground := Ground.data }, { on := 12, ground := Ground.chain }], guard := none }) (v := ?vt17) rfl (by kernel_rfl) (by kernel_rfl) (by kernel_rfl) (fun _ _ _ h => h) (Or.inl ⟨by rfl, ?hyt17⟩) hHeld ?_
    case hyt17 => (intro w hSw; (try dsimp only at hSw); go_simp <;> with_reducible rfl)
    try simp only [Act.put, List.setIfInBounds_toArray, List.set_cons_zero, List.set_cons_succ]
    refine wpAnyH_take (i := 18) (oi := { dst := some 71, op := Op.move (Operand.tmp 8), type := 4, pos := "laws.go:505", after := #[{ on := 17, ground := Ground.guard }], guard := some (17, true) }) (v := ?vt18) rfl (by kernel_rfl) (by kernel_rfl) (by kernel_rfl) (fun _ _ _ h => h) (Or.inl ⟨by rfl, ?hyt18⟩) hHeld ?_
    case hyt18 => (intro w hSw; (try dsimp only at hSw); go_simp <;> with_reducible rfl)
    try simp only [Act.put, List.setIfInBounds_toArray, List.set_cons_zero, List.set_cons_succ]
    refine wpAnyH_take (i := 19) (oi := { dst := some 72, op := Op.move (Operand.tmp 11), type := 4, pos := "laws.go:505", after := #[{ on := 17, ground := Ground.guard }], guard := some (17, true) }) (v := ?vt19) rfl (by kernel_rfl) (by kernel_rfl) (by kernel_rfl) (fun _ _ _ h => h) (Or.inl ⟨by rfl, ?hyt19⟩) hHeld ?_
    case hyt19 => (intro w hSw; (try dsimp only at hSw); go_simp <;> with_reducible rfl)
    try simp only [Act.put, List.setIfInBounds_toArray, List.set_cons_zero, List.set_cons_succ]
    refine wpAnyH_take (i := 20) (oi := { dst := some 73, op := Op.binOp BinOp.eql 4 (Operand.tmp 71) (Operand.tmp 72) 4, type := 4, pos := "laws.go:505", after := #[{ on := 18, ground := Ground.data }, { on := 19, ground := Ground.data }, { on := 17, ground := Ground.guard }], guard := some (17, true) }) (v := ?vt20) rfl (by kernel_rfl) (by kernel_rfl) (by kernel_rfl) (fun _ _ _ h => h) (Or.inl ⟨by rfl, ?hyt20⟩) hHeld ?_
    case hyt20 => (intro w hSw; (try dsimp only at hSw); go_simp <;> with_reducible rfl)
    try simp only [Act.put, List.setIfInBounds_toArray, List.set_cons_zero, List.set_cons_succ]
    refine wpAnyH_take (i := 21) (oi := { dst := some 74, op := Op.pick (Operand.tmp 70) (Operand.tmp 73) (Operand.const (Value.bool false)), type := 4, pos := "laws.go:505", after := #[{ on := 17, ground := Ground.data }, { on := 20, ground := Ground.data }], guard := none }) (v := ?vt21) rfl (by kernel_rfl) (by kernel_rfl) (by kernel_rfl) (fun _ _ _ h => h) (Or.inl ⟨by rfl, ?hyt21⟩) hHeld ?_
    case hyt21 => (intro w hSw; (try dsimp only at hSw); go_simp <;> with_reducible rfl)
    try simp only [Act.put, List.setIfInBounds_toArray, List.set_cons_zero, List.set_cons_succ]
    refine wpAnyH_take (i := 22) (oi := { dst := some 75, op := Op.move (Operand.tmp 74), type := 4, pos := "laws.go:505", after := #[{ on := 21, ground := Ground.data }, { on := 17, ground := Ground.chain }], guard := none }) (v := ?vt22) rfl (by kernel_rfl) (by kernel_rfl) (by kernel_rfl) (fun _ _ _ h => h) (Or.inl ⟨by rfl, ?hyt22⟩) hHeld ?_
    case hyt22 => (intro w hSw; (try dsimp only at hSw); go_simp <;> with_reducible rfl)
    try simp only [Act.put, List.setIfInBounds_toArray, List.set_cons_zero, List.set_cons_succ]
    refine wpAnyH_take (i := 23) (oi := { dst := some 76, op := Op.move (Operand.tmp 12), type := 24, pos := "laws.go:505", after := #[{ on := 22, ground := Ground.guard }], guard := some (22, true) }) (v := ?vt23) rfl (by kernel_rfl) (by kernel_rfl) (by kernel_rfl) (fun _ _ _ h => h) (Or.inl ⟨by rfl, ?hyt23⟩) hHeld ?_
    case hyt23 => (intro w hSw; (try dsimp only at hSw); go_simp <;> with_reducible rfl)
    try simp only [Act.put, List.setIfInBounds_toArray, List.set_cons_zero, List.set_cons_succ]
    refine wpAnyH_take (i := 24) (oi := { dst := some 77, op := Op.move (Operand.tmp 13), type := 3, pos := "laws.go:505", after := #[{ on := 22, ground := Ground.guard }], guard := some (22, true) }) (v := ?vt24) rfl (by kernel_rfl) (by kernel_rfl) (by kernel_rfl) (fun _ _ _ h => h) (Or.inl ⟨by rfl, ?hyt24⟩) hHeld ?_
    case hyt24 => (intro w hSw; (try dsimp only at hSw); go_simp <;> with_reducible rfl)
    try simp only [Act.put, List.setIfInBounds_toArray, List.set_cons_zero, List.set_cons_succ]
    refine wpAnyH_take (i := 26) (oi := { dst := some 79, op := Op.move (Operand.tmp 12), type := 24, pos := "laws.go:505", after := #[{ on := 22, ground := Ground.guard }], guard := some (22, true) }) (v := ?vt26) rfl (by kernel_rfl) (by kernel_rfl) (by kernel_rfl) (fun _ _ _ h => h) (Or.inl ⟨by rfl, ?hyt26⟩) hHeld ?_
    case hyt26 => (intro w hSw; (try dsimp only at hSw); go_simp <;> with_reducible rfl)
    try simp only [Act.put, List.setIfInBounds_toArray, List.set_cons_zero, List.set_cons_succ]
    refine wpAnyH_take (i := 27) (oi := { dst := some 80, op := Op.move (Operand.tmp 13), type := 3, pos := "laws.go:505", after := #[{ on := 22, ground := Ground.guard }], guard := some (22, true) }) (v := ?vt27) rfl (by kernel_rfl) (by kernel_rfl) (by kernel_rfl) (fun _ _ _ h => h) (Or.inl ⟨by rfl, ?hyt27⟩) hHeld ?_
    case hyt27 => (intro w hSw; (try dsimp only at hSw); go_simp <;> with_reducible rfl)
    try simp only [Act.put, List.setIfInBounds_toArray, List.set_cons_zero, List.set_cons_succ]
    refine wpAnyH_ready (rs := [25]) (by kernel_rfl) (by simp) ?_
    refine AllReadyH.cons (o := { dst := some 78, op := Op.call { callee := Callee.value (Operand.func 14), args := #[Operand.tmp 76, Operand.tmp 77], argTypes := #[24, 3] }, type := 24, pos := "laws.go:505", after := #[{ on := 23, ground := Ground.data }, { on := 24, ground := Ground.data }, { on := 22, ground := Ground.chain }, { on := 22, ground := Ground.guard }], guard := some (22, true) }) rfl (fun K hK => ?_) AllReadyH.nil
    go_simp
    refine (C25.out _ hHeld.1).mono ?_
    rintro r wvt25 ⟨⟨M25, c25, rfl, hr25⟩, hy⟩
    have HK25 : Hid (OT _ wvt25 M25 c25 (dropT d n)) := hr25
    clear hr25
    have hz : Below z8.heap.size z8 wvt25 := grow_on hHeld.1 hy
    clear hHeld hy
    refine hK.out _ _ (HS.out _ hz) (fun hHeld => ?_)
    clear hK K hz
    try simp only [Act.put, List.setIfInBounds_toArray, List.set_cons_zero, List.set_cons_succ]
    refine wpAnyH_ready (rs := [28]) (by kernel_rfl) (by simp) ?_
    refine AllReadyH.cons (o := { dst := some 81, op := Op.call { callee := Callee.value (Operand.func 26), args := #[Operand.tmp 79, Operand.tmp 80], argTypes := #[24, 3] }, type := 24, pos := "laws.go:505", after := #[{ on := 26, ground := Ground.data }, { on := 27, ground := Ground.data }, { on := 25, ground := Ground.chain }, { on := 22, ground := Ground.guard }], guard := some (22, true) }) rfl (fun K hK => ?_) AllReadyH.nil
    go_simp
    refine (C28.out _ hHeld.1).mono ?_
    rintro r wvt28 ⟨⟨M28, c28, rfl, hr28⟩, hy⟩
    have HK28 : Hid (OT _ wvt28 M28 c28 (dropT d n)) := hr28
    clear hr28
    replace HK25 : Hid (OT _ wvt28 M25 c25 (dropT d n)) := HK25.out.grow hy
    have hz : Below z8.heap.size z8 wvt28 := grow_on hHeld.1 hy
    clear hHeld hy
    refine hK.out _ _ (HS.out _ hz) (fun hHeld => ?_)
    clear hK K hz
    try simp only [Act.put, List.setIfInBounds_toArray, List.set_cons_zero, List.set_cons_succ]
    refine wpAnyH_ready (rs := [29]) (by kernel_rfl) (by simp) ?_
    refine AllReadyH.cons (o := { dst := some 82, op := Op.call { callee := Callee.value (Operand.func 17), args := #[Operand.tmp 78, Operand.tmp 81], argTypes := #[24, 24] }, type := 4, pos := "laws.go:505", after := #[{ on := 25, ground := Ground.data }, { on := 28, ground := Ground.data }, { on := 28, ground := Ground.chain }, { on := 22, ground := Ground.guard }], guard := some (22, true) }) rfl (fun K hK => ?_) AllReadyH.nil
    go_simp
    refine (sameH_any _ _ _ _ (dropT d n) _ HK25.out.rd HK28.out.rd (by rw [drop_len]; have := F5.out; omega)).mono ?_
    rintro r wvt29 ⟨rfl, hy⟩
    have hz : Below z8.heap.size z8 wvt29 := grow_on hHeld.1 hy
    clear hHeld hy
    refine hK.out _ _ (HS.out _ hz) (fun hHeld => ?_)
    clear hK K hz
    try simp only [Act.put, List.setIfInBounds_toArray, List.set_cons_zero, List.set_cons_succ]
    refine wpAnyH_take (i := 30) (oi := { dst := some 83, op := Op.pick (Operand.tmp 75) (Operand.tmp 82) (Operand.const (Value.bool false)), type := 4, pos := "laws.go:505", after := #[{ on := 22, ground := Ground.data }, { on := 29, ground := Ground.data }], guard := none }) (v := ?vt30) rfl (by kernel_rfl) (by kernel_rfl) (by kernel_rfl) (fun _ _ _ h => h) (Or.inl ⟨by rfl, ?hyt30⟩) hHeld ?_
    case hyt30 => (intro w hSw; (try dsimp only at hSw); go_simp <;> with_reducible rfl)
    try simp only [Act.put, List.setIfInBounds_toArray, List.set_cons_zero, List.set_cons_succ]
    refine wpAnyH_take (i := 31) (oi := { dst := some 84, op := Op.move (Operand.tmp 83), type := 4, pos := "laws.go:505", after := #[{ on := 30, ground := Ground.data }, { on := 29, ground := Ground.chain }], guard := none }) (v := ?vt31) rfl (by kernel_rfl) (by kernel_rfl) (by kernel_rfl) (fun _ _ _ h => h) (Or.inl ⟨by rfl, ?hyt31⟩) hHeld ?_
    case hyt31 => (intro w hSw; (try dsimp only at hSw); go_simp <;> with_reducible rfl)
    try simp only [Act.put, List.setIfInBounds_toArray, List.set_cons_zero, List.set_cons_succ]
    refine wpAnyH_take (i := 32) (oi := { dst := some 85, op := Op.move (Operand.tmp 14), type := 24, pos := "laws.go:505", after := #[{ on := 31, ground := Ground.guard }], guard := some (31, true) }) (v := ?vt32) rfl (by kernel_rfl) (by kernel_rfl) (by kernel_rfl) (fun _ _ _ h => h) (Or.inl ⟨by rfl, ?hyt32⟩) hHeld ?_
    case hyt32 => (intro w hSw; (try dsimp only at hSw); go_simp <;> with_reducible rfl)
    try simp only [Act.put, List.setIfInBounds_toArray, List.set_cons_zero, List.set_cons_succ]
    refine wpAnyH_take (i := 34) (oi := { dst := some 87, op := Op.move (Operand.tmp 14), type := 24, pos := "laws.go:505", after := #[{ on := 31, ground := Ground.guard }], guard := some (31, true) }) (v := ?vt34) rfl (by kernel_rfl) (by kernel_rfl) (by kernel_rfl) (fun _ _ _ h => h) (Or.inl ⟨by rfl, ?hyt34⟩) hHeld ?_
    case hyt34 => (intro w hSw; (try dsimp only at hSw); go_simp <;> with_reducible rfl)
    try simp only [Act.put, List.setIfInBounds_toArray, List.set_cons_zero, List.set_cons_succ]
    refine wpAnyH_ready (rs := [33]) (by kernel_rfl) (by simp) ?_
    refine AllReadyH.cons (o := { dst := some 86, op := Op.call { callee := Callee.value (Operand.func 15), args := #[Operand.tmp 85], argTypes := #[24] }, type := 4, pos := "laws.go:505", after := #[{ on := 32, ground := Ground.data }, { on := 31, ground := Ground.chain }, { on := 31, ground := Ground.guard }], guard := some (31, true) }) rfl (fun K hK => ?_) AllReadyH.nil
    go_simp
    refine (C33.out _ hHeld.1).mono ?_
    rintro r wvt33 ⟨rfl, hy⟩
    have hz : Below z8.heap.size z8 wvt33 := grow_on hHeld.1 hy
    clear hHeld hy
    refine hK.out _ _ (HS.out _ hz) (fun hHeld => ?_)
    clear hK K hz
    try simp only [Act.put, List.setIfInBounds_toArray, List.set_cons_zero, List.set_cons_succ]
    refine wpAnyH_ready (rs := [35]) (by kernel_rfl) (by simp) ?_
    refine AllReadyH.cons (o := { dst := some 88, op := Op.call { callee := Callee.value (Operand.func 27), args := #[Operand.tmp 87], argTypes := #[24] }, type := 4, pos := "laws.go:505", after := #[{ on := 34, ground := Ground.data }, { on := 33, ground := Ground.chain }, { on := 31, ground := Ground.guard }], guard := some (31, true) }) rfl (fun K hK => ?_) AllReadyH.nil
    go_simp
    refine (C35.out _ hHeld.1).mono ?_
    rintro r wvt35 ⟨rfl, hy⟩
    have hz : Below z8.heap.size z8 wvt35 := grow_on hHeld.1 hy
    clear hHeld hy
    refine hK.out _ _ (HS.out _ hz) (fun hHeld => ?_)
    clear hK K hz
    try simp only [Act.put, List.setIfInBounds_toArray, List.set_cons_zero, List.set_cons_succ]
    refine wpAnyH_take (i := 36) (oi := { dst := some 89, op := Op.binOp BinOp.eql 4 (Operand.tmp 86) (Operand.tmp 88) 4, type := 4, pos := "laws.go:505", after := #[{ on := 33, ground := Ground.data }, { on := 35, ground := Ground.data }, { on := 31, ground := Ground.guard }], guard := some (31, true) }) (v := ?vt36) rfl (by kernel_rfl) (by kernel_rfl) (by kernel_rfl) (fun _ _ _ h => h) (Or.inl ⟨by rfl, ?hyt36⟩) hHeld ?_
    case hyt36 => (intro w hSw; (try dsimp only at hSw); go_simp <;> with_reducible rfl)
    try simp only [Act.put, List.setIfInBounds_toArray, List.set_cons_zero, List.set_cons_succ]
    refine wpAnyH_take (i := 37) (oi := { dst := some 90, op := Op.pick (Operand.tmp 84) (Operand.tmp 89) (Operand.const (Value.bool false)), type := 4, pos := "laws.go:505", after := #[{ on := 31, ground := Ground.data }, { on := 36, ground := Ground.data }], guard := none }) (v := ?vt37) rfl (by kernel_rfl) (by kernel_rfl) (by kernel_rfl) (fun _ _ _ h => h) (Or.inl ⟨by rfl, ?hyt37⟩) hHeld ?_
    case hyt37 => (intro w hSw; (try dsimp only at hSw); go_simp <;> with_reducible rfl)
    try simp only [Act.put, List.setIfInBounds_toArray, List.set_cons_zero, List.set_cons_succ]
    refine wpAnyH_take (i := 38) (oi := { dst := some 91, op := Op.move (Operand.tmp 90), type := 4, pos := "laws.go:505", after := #[{ on := 37, ground := Ground.data }, { on := 35, ground := Ground.chain }], guard := none }) (v := ?vt38) rfl (by kernel_rfl) (by kernel_rfl) (by kernel_rfl) (fun _ _ _ h => h) (Or.inl ⟨by rfl, ?hyt38⟩) hHeld ?_
    case hyt38 => (intro w hSw; (try dsimp only at hSw); go_simp <;> with_reducible rfl)
    try simp only [Act.put, List.setIfInBounds_toArray, List.set_cons_zero, List.set_cons_succ]
    refine wpAnyH_take (i := 39) (oi := { dst := some 92, op := Op.move (Operand.tmp 15), type := 24, pos := "laws.go:505", after := #[{ on := 38, ground := Ground.guard }], guard := some (38, true) }) (v := ?vt39) rfl (by kernel_rfl) (by kernel_rfl) (by kernel_rfl) (fun _ _ _ h => h) (Or.inl ⟨by rfl, ?hyt39⟩) hHeld ?_
    case hyt39 => (intro w hSw; (try dsimp only at hSw); go_simp <;> with_reducible rfl)
    try simp only [Act.put, List.setIfInBounds_toArray, List.set_cons_zero, List.set_cons_succ]
    refine wpAnyH_take (i := 41) (oi := { dst := some 94, op := Op.move (Operand.tmp 15), type := 24, pos := "laws.go:505", after := #[{ on := 38, ground := Ground.guard }], guard := some (38, true) }) (v := ?vt41) rfl (by kernel_rfl) (by kernel_rfl) (by kernel_rfl) (fun _ _ _ h => h) (Or.inl ⟨by rfl, ?hyt41⟩) hHeld ?_
    case hyt41 => (intro w hSw; (try dsimp only at hSw); go_simp <;> with_reducible rfl)
    try simp only [Act.put, List.setIfInBounds_toArray, List.set_cons_zero, List.set_cons_succ]
    refine wpAnyH_ready (rs := [40]) (by kernel_rfl) (by simp) ?_
    refine AllReadyH.cons (o := { dst := some 93, op := Op.call { callee := Callee.value (Operand.func 12), args := #[Operand.tmp 92], argTypes := #[24] }, type := 24, pos := "laws.go:505", after := #[{ on := 39, ground := Ground.data }, { on := 38, ground := Ground.chain }, { on := 38, ground := Ground.guard }], guard := some (38, true) }) rfl (fun K hK => ?_) AllReadyH.nil
    go_simp
    refine (C40.out _ hHeld.1).mono ?_
    rintro r wvt40 ⟨⟨M40, c40, rfl, hr40⟩, hy⟩
    have HK40 : Hid (OT _ wvt40 M40 c40 (sortT s)) := hr40
    clear hr40
    have hz : Below z8.heap.size z8 wvt40 := grow_on hHeld.1 hy
    clear hHeld hy
    refine hK.out _ _ (HS.out _ hz) (fun hHeld => ?_)
    clear hK K hz
    try simp only [Act.put, List.setIfInBounds_toArray, List.set_cons_zero, List.set_cons_succ]
    refine wpAnyH_ready (rs := [42]) (by kernel_rfl) (by simp) ?_
    refine AllReadyH.cons (o := { dst := some 95, op := Op.call { callee := Callee.value (Operand.func 28), args := #[Operand.tmp 94], argTypes := #[24] }, type := 24, pos := "laws.go:505", after := #[{ on := 41, ground := Ground.data }, { on := 40, ground := Ground.chain }, { on := 38, ground := Ground.guard }], guard := some (38, true) }) rfl (fun K hK => ?_) AllReadyH.nil
    go_simp
    refine (C42.out _ hHeld.1).mono ?_
    rintro r wvt42 ⟨⟨M42, c42, rfl, hr42⟩, hy⟩
    have HK42 : Hid (OT _ wvt42 M42 c42 (sortT s)) := hr42
    clear hr42
    replace HK40 : Hid (OT _ wvt42 M40 c40 (sortT s)) := HK40.out.grow hy
    have hz : Below z8.heap.size z8 wvt42 := grow_on hHeld.1 hy
    clear hHeld hy
    refine hK.out _ _ (HS.out _ hz) (fun hHeld => ?_)
    clear hK K hz
    try simp only [Act.put, List.setIfInBounds_toArray, List.set_cons_zero, List.set_cons_succ]
    refine wpAnyH_ready (rs := [43]) (by kernel_rfl) (by simp) ?_
    refine AllReadyH.cons (o := { dst := some 96, op := Op.call { callee := Callee.value (Operand.func 17), args := #[Operand.tmp 93, Operand.tmp 95], argTypes := #[24, 24] }, type := 4, pos := "laws.go:505", after := #[{ on := 40, ground := Ground.data }, { on := 42, ground := Ground.data }, { on := 42, ground := Ground.chain }, { on := 38, ground := Ground.guard }], guard := some (38, true) }) rfl (fun K hK => ?_) AllReadyH.nil
    go_simp
    refine (sameH_any _ _ _ _ (sortT s) _ HK40.out.rd HK42.out.rd (by rw [sort_length]; have := F7.out; omega)).mono ?_
    rintro r wvt43 ⟨rfl, hy⟩
    have hz : Below z8.heap.size z8 wvt43 := grow_on hHeld.1 hy
    clear hHeld hy
    refine hK.out _ _ (HS.out _ hz) (fun hHeld => ?_)
    clear hK K hz
    try simp only [Act.put, List.setIfInBounds_toArray, List.set_cons_zero, List.set_cons_succ]
    refine wpAnyH_take (i := 44) (oi := { dst := some 97, op := Op.pick (Operand.tmp 91) (Operand.tmp 96) (Operand.const (Value.bool false)), type := 4, pos := "laws.go:505", after := #[{ on := 38, ground := Ground.data }, { on := 43, ground := Ground.data }], guard := none }) (v := ?vt44) rfl (by kernel_rfl) (by kernel_rfl) (by kernel_rfl) (fun _ _ _ h => h) (Or.inl ⟨by rfl, ?hyt44⟩) hHeld ?_
    case hyt44 => (intro w hSw; (try dsimp only at hSw); go_simp <;> with_reducible rfl)
    try simp only [Act.put, List.setIfInBounds_toArray, List.set_cons_zero, List.set_cons_succ]
    refine wpAnyH_take (i := 45) (oi := { dst := some 98, op := Op.move (Operand.tmp 97), type := 4, pos := "laws.go:505", after := #[{ on := 44, ground := Ground.data }, { on := 43, ground := Ground.chain }], guard := none }) (v := ?vt45) rfl (by kernel_rfl) (by kernel_rfl) (by kernel_rfl) (fun _ _ _ h => h) (Or.inl ⟨by rfl, ?hyt45⟩) hHeld ?_
    case hyt45 => (intro w hSw; (try dsimp only at hSw); go_simp <;> with_reducible rfl)
    try simp only [Act.put, List.setIfInBounds_toArray, List.set_cons_zero, List.set_cons_succ]
    refine wpAnyH_take (i := 46) (oi := { dst := some 99, op := Op.load 26 (Operand.tmp 16), type := 26, pos := "laws.go:505", after := #[{ on := 45, ground := Ground.guard }], guard := some (45, true) }) (v := ?vt46) rfl (by kernel_rfl) (by kernel_rfl) (by kernel_rfl) (fun _ _ _ h => h) (Or.inl ⟨by rfl, ?hyt46⟩) hHeld ?_
    case hyt46 => (intro w hSw; (try dsimp only at hSw); go_simp <;> with_reducible rfl)
    try simp only [Act.put, List.setIfInBounds_toArray, List.set_cons_zero, List.set_cons_succ]
    refine wpAnyH_take (i := 47) (oi := { dst := some 100, op := Op.load 26 (Operand.tmp 17), type := 26, pos := "laws.go:505", after := #[{ on := 45, ground := Ground.guard }], guard := some (45, true) }) (v := ?vt47) rfl (by kernel_rfl) (by kernel_rfl) (by kernel_rfl) (fun _ _ _ h => h) (Or.inl ⟨by rfl, ?hyt47⟩) hHeld ?_
    case hyt47 => (intro w hSw; (try dsimp only at hSw); go_simp <;> with_reducible rfl)
    try simp only [Act.put, List.setIfInBounds_toArray, List.set_cons_zero, List.set_cons_succ]
    refine wpAnyH_take (i := 49) (oi := { dst := some 102, op := Op.load 26 (Operand.tmp 16), type := 26, pos := "laws.go:505", after := #[{ on := 45, ground := Ground.guard }], guard := some (45, true) }) (v := ?vt49) rfl (by kernel_rfl) (by kernel_rfl) (by kernel_rfl) (fun _ _ _ h => h) (Or.inl ⟨by rfl, ?hyt49⟩) hHeld ?_
    case hyt49 => (intro w hSw; (try dsimp only at hSw); go_simp <;> with_reducible rfl)
    try simp only [Act.put, List.setIfInBounds_toArray, List.set_cons_zero, List.set_cons_succ]
    refine wpAnyH_take (i := 50) (oi := { dst := some 103, op := Op.load 26 (Operand.tmp 17), type := 26, pos := "laws.go:505", after := #[{ on := 45, ground := Ground.guard }], guard := some (45, true) }) (v := ?vt50) rfl (by kernel_rfl) (by kernel_rfl) (by kernel_rfl) (fun _ _ _ h => h) (Or.inl ⟨by rfl, ?hyt50⟩) hHeld ?_
    case hyt50 => (intro w hSw; (try dsimp only at hSw); go_simp <;> with_reducible rfl)
    try simp only [Act.put, List.setIfInBounds_toArray, List.set_cons_zero, List.set_cons_succ]
    refine wpAnyH_ready (rs := [48]) (by kernel_rfl) (by simp) ?_
    refine AllReadyH.cons (o := { dst := some 101, op := Op.call { callee := Callee.value (Operand.func 16), args := #[Operand.tmp 99, Operand.tmp 100], argTypes := #[26, 26] }, type := 4, pos := "laws.go:505", after := #[{ on := 46, ground := Ground.data }, { on := 47, ground := Ground.data }, { on := 45, ground := Ground.chain }, { on := 45, ground := Ground.guard }], guard := some (45, true) }) rfl (fun K hK => ?_) AllReadyH.nil
    go_simp
    refine (C48.out _ hHeld.1).mono ?_
    rintro r wvt48 ⟨rfl, hy⟩
    have hz : Below z8.heap.size z8 wvt48 := grow_on hHeld.1 hy
    clear hHeld hy
    refine hK.out _ _ (HS.out _ hz) (fun hHeld => ?_)
    clear hK K hz
    try simp only [Act.put, List.setIfInBounds_toArray, List.set_cons_zero, List.set_cons_succ]
    refine wpAnyH_ready (rs := [51]) (by kernel_rfl) (by simp) ?_
    refine AllReadyH.cons (o := { dst := some 104, op := Op.call { callee := Callee.value (Operand.func 29), args := #[Operand.tmp 102, Operand.tmp 103], argTypes := #[26, 26] }, type := 4, pos := "laws.go:505", after := #[{ on := 49, ground := Ground.data }, { on := 50, ground := Ground.data }, { on := 48, ground := Ground.chain }, { on := 45, ground := Ground.guard }], guard := some (45, true) }) rfl (fun K hK => ?_) AllReadyH.nil
    go_simp
    refine (C51.out _ hHeld.1).mono ?_
    rintro r wvt51 ⟨rfl, hy⟩
    have hz : Below z8.heap.size z8 wvt51 := grow_on hHeld.1 hy
    clear hHeld hy
    refine hK.out _ _ (HS.out _ hz) (fun hHeld => ?_)
    clear hK K hz
    try simp only [Act.put, List.setIfInBounds_toArray, List.set_cons_zero, List.set_cons_succ]
    refine wpAnyH_take (i := 52) (oi := { dst := some 105, op := Op.binOp BinOp.eql 4 (Operand.tmp 101) (Operand.tmp 104) 4, type := 4, pos := "laws.go:505", after := #[{ on := 48, ground := Ground.data }, { on := 51, ground := Ground.data }, { on := 45, ground := Ground.guard }], guard := some (45, true) }) (v := ?vt52) rfl (by kernel_rfl) (by kernel_rfl) (by kernel_rfl) (fun _ _ _ h => h) (Or.inl ⟨by rfl, ?hyt52⟩) hHeld ?_
    case hyt52 => (intro w hSw; (try dsimp only at hSw); go_simp <;> with_reducible rfl)
    try simp only [Act.put, List.setIfInBounds_toArray, List.set_cons_zero, List.set_cons_succ]
    refine wpAnyH_take (i := 53) (oi := { dst := some 106, op := Op.pick (Operand.tmp 98) (Operand.tmp 105) (Operand.const (Value.bool false)), type := 4, pos := "laws.go:505", after := #[{ on := 45, ground := Ground.data }, { on := 52, ground := Ground.data }], guard := none }) (v := ?vt53) rfl (by kernel_rfl) (by kernel_rfl) (by kernel_rfl) (fun _ _ _ h => h) (Or.inl ⟨by rfl, ?hyt53⟩) hHeld ?_
    case hyt53 => (intro w hSw; (try dsimp only at hSw); go_simp <;> with_reducible rfl)
    try simp only [Act.put, List.setIfInBounds_toArray, List.set_cons_zero, List.set_cons_succ]
    refine wpAnyH_take (i := 54) (oi := { dst := some 107, op := Op.move (Operand.tmp 106), type := 4, pos := "laws.go:505", after := #[{ on := 53, ground := Ground.data }, { on := 51, ground := Ground.chain }], guard := none }) (v := ?vt54) rfl (by kernel_rfl) (by kernel_rfl) (by kernel_rfl) (fun _ _ _ h => h) (Or.inl ⟨by rfl, ?hyt54⟩) hHeld ?_
    case hyt54 => (intro w hSw; (try dsimp only at hSw); go_simp <;> with_reducible rfl)
    try simp only [Act.put, List.setIfInBounds_toArray, List.set_cons_zero, List.set_cons_succ]
    refine wpAnyH_take (i := 55) (oi := { dst := some 108, op := Op.load 26 (Operand.tmp 16), type := 26, pos := "laws.go:505", after := #[{ on := 54, ground := Ground.guard }], guard := some (54, true) }) (v := ?vt55) rfl (by kernel_rfl) (by kernel_rfl) (by kernel_rfl) (fun _ _ _ h => h) (Or.inl ⟨by rfl, ?hyt55⟩) hHeld ?_
    case hyt55 => (intro w hSw; (try dsimp only at hSw); go_simp <;> with_reducible rfl)
    try simp only [Act.put, List.setIfInBounds_toArray, List.set_cons_zero, List.set_cons_succ]
    refine wpAnyH_take (i := 56) (oi := { dst := some 109, op := Op.load 26 (Operand.tmp 17), type := 26, pos := "laws.go:505", after := #[{ on := 54, ground := Ground.guard }], guard := some (54, true) }) (v := ?vt56) rfl (by kernel_rfl) (by kernel_rfl) (by kernel_rfl) (fun _ _ _ h => h) (Or.inl ⟨by rfl, ?hyt56⟩) hHeld ?_
    case hyt56 => (intro w hSw; (try dsimp only at hSw); go_simp <;> with_reducible rfl)
    try simp only [Act.put, List.setIfInBounds_toArray, List.set_cons_zero, List.set_cons_succ]
    refine wpAnyH_ready (rs := [57]) (by kernel_rfl) (by simp) ?_
    refine AllReadyH.cons (o := { dst := some 110, op := Op.call { callee := Callee.value (Operand.func 16), args := #[Operand.tmp 108, Operand.tmp 109], argTypes := #[26, 26] }, type := 4, pos := "laws.go:505", after := #[{ on := 55, ground := Ground.data }, { on := 56, ground := Ground.data }, { on := 54, ground := Ground.chain }, { on := 54, ground := Ground.guard }], guard := some (54, true) }) rfl (fun K hK => ?_) AllReadyH.nil
    go_simp
    refine (C48.out _ hHeld.1).mono ?_
    rintro r wvt57 ⟨rfl, hy⟩
    have hz : Below z8.heap.size z8 wvt57 := grow_on hHeld.1 hy
    clear hHeld hy
    refine hK.out _ _ (HS.out _ hz) (fun hHeld => ?_)
    clear hK K hz
    try simp only [Act.put, List.setIfInBounds_toArray, List.set_cons_zero, List.set_cons_succ]
    refine wpAnyH_take (i := 58) (oi := { dst := some 111, op := Op.move (Operand.tmp 110), type := 4, pos := "laws.go:505", after := #[{ on := 57, ground := Ground.data }, { on := 57, ground := Ground.chain }, { on := 54, ground := Ground.guard }], guard := some (54, true) }) (v := ?vt58) rfl (by kernel_rfl) (by kernel_rfl) (by kernel_rfl) (fun _ _ _ h => h) (Or.inl ⟨by rfl, ?hyt58⟩) hHeld ?_
    case hyt58 => (intro w hSw; (try dsimp only at hSw); go_simp <;> with_reducible rfl)
    try simp only [Act.put, List.setIfInBounds_toArray, List.set_cons_zero, List.set_cons_succ]
    refine wpAnyH_take (i := 59) (oi := { dst := some 112, op := Op.load 26 (Operand.tmp 17), type := 26, pos := "laws.go:505", after := #[{ on := 58, ground := Ground.guard }], guard := some (58, true) }) (v := ?vt59) rfl (by kernel_rfl) (by kernel_rfl) (by kernel_rfl) (fun _ _ _ h => h) (Or.inl ⟨by rfl, ?hyt59⟩) hHeld ?_
    case hyt59 => (intro w hSw; (try dsimp only at hSw); go_simp <;> with_reducible rfl)
    try simp only [Act.put, List.setIfInBounds_toArray, List.set_cons_zero, List.set_cons_succ]
    refine wpAnyH_take (i := 60) (oi := { dst := some 113, op := Op.load 26 (Operand.tmp 16), type := 26, pos := "laws.go:505", after := #[{ on := 58, ground := Ground.guard }], guard := some (58, true) }) (v := ?vt60) rfl (by kernel_rfl) (by kernel_rfl) (by kernel_rfl) (fun _ _ _ h => h) (Or.inl ⟨by rfl, ?hyt60⟩) hHeld ?_
    case hyt60 => (intro w hSw; (try dsimp only at hSw); go_simp <;> with_reducible rfl)
    try simp only [Act.put, List.setIfInBounds_toArray, List.set_cons_zero, List.set_cons_succ]
    refine wpAnyH_ready (rs := [61]) (by kernel_rfl) (by simp) ?_
    refine AllReadyH.cons (o := { dst := some 114, op := Op.call { callee := Callee.value (Operand.func 16), args := #[Operand.tmp 112, Operand.tmp 113], argTypes := #[26, 26] }, type := 4, pos := "laws.go:505", after := #[{ on := 59, ground := Ground.data }, { on := 60, ground := Ground.data }, { on := 58, ground := Ground.chain }, { on := 58, ground := Ground.guard }], guard := some (58, true) }) rfl (fun K hK => ?_) AllReadyH.nil
    go_simp
    refine (C61.out _ hHeld.1).mono ?_
    rintro r wvt61 ⟨rfl, hy⟩
    have hz : Below z8.heap.size z8 wvt61 := grow_on hHeld.1 hy
    clear hHeld hy
    refine hK.out _ _ (HS.out _ hz) (fun hHeld => ?_)
    clear hK K hz
    try simp only [Act.put, List.setIfInBounds_toArray, List.set_cons_zero, List.set_cons_succ]
    refine wpAnyH_take (i := 62) (oi := { dst := some 115, op := Op.pick (Operand.tmp 111) (Operand.tmp 114) (Operand.const (Value.bool false)), type := 4, pos := "laws.go:505", after := #[{ on := 58, ground := Ground.data }, { on := 61, ground := Ground.data }, { on := 54, ground := Ground.guard }], guard := some (54, true) }) (v := ?vt62) rfl (by kernel_rfl) (by kernel_rfl) (by kernel_rfl) (fun _ _ _ h => h) (Or.inl ⟨by rfl, ?hyt62⟩) hHeld ?_
    case hyt62 => (intro w hSw; (try dsimp only at hSw); go_simp <;> with_reducible rfl)
    try simp only [Act.put, List.setIfInBounds_toArray, List.set_cons_zero, List.set_cons_succ]
    refine wpAnyH_take (i := 63) (oi := { dst := some 116, op := Op.unOp UnOp.not 4 (Operand.tmp 115), type := 4, pos := "laws.go:505", after := #[{ on := 62, ground := Ground.data }, { on := 54, ground := Ground.guard }], guard := some (54, true) }) (v := ?vt63) rfl (by kernel_rfl) (by kernel_rfl) (by kernel_rfl) (fun _ _ _ h => h) (Or.inl ⟨by rfl, ?hyt63⟩) hHeld ?_
    case hyt63 => (intro w hSw; (try dsimp only at hSw); go_simp <;> with_reducible rfl)
    try simp only [Act.put, List.setIfInBounds_toArray, List.set_cons_zero, List.set_cons_succ]
    refine wpAnyH_take (i := 64) (oi := { dst := some 117, op := Op.pick (Operand.tmp 107) (Operand.tmp 116) (Operand.const (Value.bool false)), type := 4, pos := "laws.go:505", after := #[{ on := 54, ground := Ground.data }, { on := 63, ground := Ground.data }], guard := none }) (v := ?vt64) rfl (by kernel_rfl) (by kernel_rfl) (by kernel_rfl) (fun _ _ _ h => h) (Or.inl ⟨by rfl, ?hyt64⟩) hHeld ?_
    case hyt64 => (intro w hSw; (try dsimp only at hSw); go_simp <;> with_reducible rfl)
    try simp only [Act.put, List.setIfInBounds_toArray, List.set_cons_zero, List.set_cons_succ]
    refine wpAnyH_take (i := 65) (oi := { dst := some 118, op := Op.move (Operand.tmp 117), type := 4, pos := "laws.go:505", after := #[{ on := 64, ground := Ground.data }, { on := 61, ground := Ground.chain }], guard := none }) (v := ?vt65) rfl (by kernel_rfl) (by kernel_rfl) (by kernel_rfl) (fun _ _ _ h => h) (Or.inl ⟨by rfl, ?hyt65⟩) hHeld ?_
    case hyt65 => (intro w hSw; (try dsimp only at hSw); go_simp <;> with_reducible rfl)
    try simp only [Act.put, List.setIfInBounds_toArray, List.set_cons_zero, List.set_cons_succ]
    refine wpAnyH_take (i := 66) (oi := { dst := some 119, op := Op.move (Operand.tmp 3), type := 24, pos := "laws.go:505", after := #[{ on := 65, ground := Ground.guard }], guard := some (65, true) }) (v := ?vt66) rfl (by kernel_rfl) (by kernel_rfl) (by kernel_rfl) (fun _ _ _ h => h) (Or.inl ⟨by rfl, ?hyt66⟩) hHeld ?_
    case hyt66 => (intro w hSw; (try dsimp only at hSw); go_simp <;> with_reducible rfl)
    try simp only [Act.put, List.setIfInBounds_toArray, List.set_cons_zero, List.set_cons_succ]
    refine wpAnyH_take (i := 67) (oi := { dst := some 120, op := Op.load 26 (Operand.tmp 4), type := 26, pos := "laws.go:505", after := #[{ on := 65, ground := Ground.guard }], guard := some (65, true) }) (v := ?vt67) rfl (by kernel_rfl) (by kernel_rfl) (by kernel_rfl) (fun _ _ _ h => h) (Or.inl ⟨by rfl, ?hyt67⟩) hHeld ?_
    case hyt67 => (intro w hSw; (try dsimp only at hSw); go_simp <;> with_reducible rfl)
    try simp only [Act.put, List.setIfInBounds_toArray, List.set_cons_zero, List.set_cons_succ]
    refine wpAnyH_take (i := 70) (oi := { dst := some 123, op := Op.move (Operand.tmp 3), type := 24, pos := "laws.go:505", after := #[{ on := 65, ground := Ground.guard }], guard := some (65, true) }) (v := ?vt70) rfl (by kernel_rfl) (by kernel_rfl) (by kernel_rfl) (fun _ _ _ h => h) (Or.inl ⟨by rfl, ?hyt70⟩) hHeld ?_
    case hyt70 => (intro w hSw; (try dsimp only at hSw); go_simp <;> with_reducible rfl)
    try simp only [Act.put, List.setIfInBounds_toArray, List.set_cons_zero, List.set_cons_succ]
    refine wpAnyH_take (i := 71) (oi := { dst := some 124, op := Op.call { callee := Callee.builtin Builtin.len, args := #[Operand.tmp 123], argTypes := #[24] }, type := 3, pos := "laws.go:505", after := #[{ on := 70, ground := Ground.data }, { on := 65, ground := Ground.guard }], guard := some (65, true) }) (v := ?vt71) rfl (by kernel_rfl) (by kernel_rfl) (by kernel_rfl) (fun _ _ _ h => h) (Or.inl ⟨by rfl, ?hyt71⟩) hHeld ?_
    case hyt71 => (intro w hSw; (try dsimp only at hSw); go_simp <;> with_reducible rfl)
    try simp only [Act.put, List.setIfInBounds_toArray, List.set_cons_zero, List.set_cons_succ]
    refine wpAnyH_take (i := 72) (oi := { dst := some 125, op := Op.binOp BinOp.add 3 (Operand.tmp 124) (Operand.const (Value.int IntKind.i64 1)) 3, type := 3, pos := "laws.go:505", after := #[{ on := 71, ground := Ground.data }, { on := 65, ground := Ground.guard }], guard := some (65, true) }) (v := ?vt72) rfl (by kernel_rfl) (by kernel_rfl) (by kernel_rfl) (fun _ _ _ h => h) (Or.inl ⟨by rfl, ?hyt72⟩) hHeld ?_
    case hyt72 => (intro w hSw; (try dsimp only at hSw); go_simp <;> with_reducible rfl)
    try simp only [Act.put, List.setIfInBounds_toArray, List.set_cons_zero, List.set_cons_succ]
    refine wpAnyH_ready (rs := [68]) (by kernel_rfl) (by simp) ?_
    refine AllReadyH.cons (o := { dst := some 121, op := Op.call { callee := Callee.value (Operand.func 11), args := #[Operand.tmp 119, Operand.tmp 120], argTypes := #[24, 26] }, type := 24, pos := "laws.go:505", after := #[{ on := 66, ground := Ground.data }, { on := 67, ground := Ground.data }, { on := 65, ground := Ground.chain }, { on := 65, ground := Ground.guard }], guard := some (65, true) }) rfl (fun K hK => ?_) AllReadyH.nil
    go_simp
    refine (C2.out _ hHeld.1).mono ?_
    rintro r wvt68 ⟨⟨M68, c68, rfl, -⟩, hy⟩
    have hz : Below z8.heap.size z8 wvt68 := grow_on hHeld.1 hy
    clear hHeld hy
    refine hK.out _ _ (HS.out _ hz) (fun hHeld => ?_)
    clear hK K hz
    try simp only [Act.put, List.setIfInBounds_toArray, List.set_cons_zero, List.set_cons_succ]
    refine wpAnyH_take (i := 69) (oi := { dst := some 122, op := Op.call { callee := Callee.builtin Builtin.len, args := #[Operand.tmp 121], argTypes := #[24] }, type := 3, pos := "laws.go:505", after := #[{ on := 68, ground := Ground.data }, { on := 65, ground := Ground.guard }], guard := some (65, true) }) (v := ?vt69) rfl (by kernel_rfl) (by kernel_rfl) (by kernel_rfl) (fun _ _ _ h => h) (Or.inl ⟨by rfl, ?hyt69⟩) hHeld ?_
    case hyt69 => (intro w hSw; (try dsimp only at hSw); go_simp <;> with_reducible rfl)
    try simp only [Act.put, List.setIfInBounds_toArray, List.set_cons_zero, List.set_cons_succ]
    refine wpAnyH_take (i := 73) (oi := { dst := some 126, op := Op.binOp BinOp.eql 3 (Operand.tmp 122) (Operand.tmp 125) 3, type := 4, pos := "laws.go:505", after := #[{ on := 69, ground := Ground.data }, { on := 72, ground := Ground.data }, { on := 65, ground := Ground.guard }], guard := some (65, true) }) (v := ?vt73) rfl (by kernel_rfl) (by kernel_rfl) (by kernel_rfl) (fun _ _ _ h => h) (Or.inl ⟨by rfl, ?hyt73⟩) hHeld ?_
    case hyt73 => (intro w hSw; (try dsimp only at hSw); go_simp <;> with_reducible rfl)
    try simp only [Act.put, List.setIfInBounds_toArray, List.set_cons_zero, List.set_cons_succ]
    refine wpAnyH_take (i := 74) (oi := { dst := some 127, op := Op.pick (Operand.tmp 118) (Operand.tmp 126) (Operand.const (Value.bool false)), type := 4, pos := "laws.go:505", after := #[{ on := 65, ground := Ground.data }, { on := 73, ground := Ground.data }], guard := none }) (v := ?vt74) rfl (by kernel_rfl) (by kernel_rfl) (by kernel_rfl) (fun _ _ _ h => h) (Or.inl ⟨by rfl, ?hyt74⟩) hHeld ?_
    case hyt74 => (intro w hSw; (try dsimp only at hSw); go_simp <;> with_reducible rfl)
    try simp only [Act.put, List.setIfInBounds_toArray, List.set_cons_zero, List.set_cons_succ]
    refine wpAnyH_take (i := 75) (oi := { dst := some 2, op := Op.assign (Operand.tmp 127), type := 4, pos := "laws.go:505", after := #[{ on := 74, ground := Ground.data }, { on := 68, ground := Ground.chain }, { on := 0, ground := Ground.phase }, { on := 1, ground := Ground.phase }, { on := 2, ground := Ground.phase }, { on := 3, ground := Ground.phase }, { on := 4, ground := Ground.phase }, { on := 5, ground := Ground.phase }, { on := 6, ground := Ground.phase }, { on := 7, ground := Ground.phase }, { on := 8, ground := Ground.phase }, { on := 9, ground := Ground.phase }, { on := 10, ground := Ground.phase }, { on := 11, ground := Ground.phase }, { on := 12, ground := Ground.phase }, { on := 13, ground := Ground.phase }, { on := 14, ground := Ground.phase }, { on := 15, ground := Ground.phase }, { on := 16, ground := Ground.phase }, { on := 17, ground := Ground.phase }, { on := 18, ground := Ground.phase }, { on := 19, ground := Ground.phase }, { on := 20, ground := Ground.phase }, { on := 21, ground := Ground.phase }, { on := 22, ground := Ground.phase }, { on := 23, ground := Ground.phase }, { on := 24, ground := Ground.phase }, { on := 25, ground := Ground.phase }, { on := 26, ground := Ground.phase }, { on := 27, ground := Ground.phase }, { on := 28, ground := Ground.phase }, { on := 29, ground := Ground.phase }, { on := 30, ground := Ground.phase }, { on := 31, ground := Ground.phase }, { on := 32, ground := Ground.phase }, { on := 33, ground := Ground.phase }, { on := 34, ground := Ground.phase }, { on := 35, ground := Ground.phase }, { on := 36, ground := Ground.phase }, { on := 37, ground := Ground.phase }, { on := 38, ground := Ground.phase }, { on := 39, ground := Ground.phase }, { on := 40, ground := Ground.phase }, { on := 41, ground := Ground.phase }, { on := 42, ground := Ground.phase }, { on := 43, ground := Ground.phase }, { on := 44, ground := Ground.phase }, { on := 45, ground := Ground.phase }, { on := 46, ground := Ground.phase }, { on := 47, ground := Ground.phase }, { on := 48, ground := Ground.phase }, { on := 49, ground := Ground.phase }, { on := 50, ground := Ground.phase }, { on := 51, ground := Ground.phase }, { on := 52, ground := Ground.phase }, { on := 53, ground := Ground.phase }, { on := 54, ground := Ground.phase }, { on := 55, ground := Ground.phase }, { on := 56, ground := Ground.phase }, { on := 57, ground := Ground.phase }, { on := 58, ground := Ground.phase }, { on := 59, ground := Ground.phase }, { on := 60, ground := Ground.phase }, { on := 61, ground := Ground.phase }, { on := 62, ground := Ground.phase }, { on := 63, ground := Ground.phase }, { on := 64, ground := Ground.phase }, { on := 65, ground := Ground.phase }, { on := 66, ground := Ground.phase }, { on := 67, ground := Ground.phase }, { on := 68, ground := Ground.phase }, { on := 69, ground := Ground.phase }, { on := 70, ground := Ground.phase }, { on := 71, ground := Ground.phase }, { on := 72, ground := Ground.phase }, { on := 73, ground := Ground.phase }, { on := 74, ground := Ground.phase }], guard := none }) (v := ?vt75) rfl (by kernel_rfl) (by kernel_rfl) (by kernel_rfl) (fun _ _ _ h => h) (Or.inl ⟨by rfl, ?hyt75⟩) hHeld ?_
    case hyt75 => (intro w hSw; (try dsimp only at hSw); go_simp <;> with_reducible rfl)
    try simp only [Act.put, List.setIfInBounds_toArray, List.set_cons_zero, List.set_cons_succ]
    refine wpAnyH_done (by kernel_rfl) ?_ _
    have HBZ : Hid (Below w.heap.size w wvt68) := grow_on B_z8.out hHeld.1
    clear hHeld HS
    go_wp2
    go_ret
    exact ⟨Go.Proofs.Ytcjhieknmblbbaa.LawB.retB HLE.out, HBZ.out⟩

theorem walk (a : Option Addr) (len cap : Nat) (zs : List Int) (w : World) (h : IsRow .u8 w a len cap zs) :
    Calls Try.prog 4 #[.slice a len cap] w fun e w' => e = .returned (.bool true) ∧ Below w.heap.size w w' := by
  obtain ⟨hl, hb⟩ := bytes_of h
  exact core a len cap w hl hb
theorem own : ownKnob Try.prog.godebug = none := by kernel_rfl
theorem laidOut : laidOutB Try.prog = true := by kernel_rfl
set_option maxRecDepth 100000 in
theorem lifted (os : Os) (started : os.Started) (H : Type) (enc : TypeId × Value → H) :
    ReturnsInHanded {} Try.checked os 4 .any (Rows.fnHeapsBentSpec.pre6 enc Try.prog Try.f4 Rows.fnHeapsBentRow.domain false) (Rows.fnHeapsBentSpec.post enc Try.prog Try.f4 false true false false) := by
  refine returnsInHanded_of_change (C := Try.checked) own started (by kernel_rfl) Try.func4
    (ChangeSpec.witness6 (enc := enc) (C := Try.checked) false ⟨#[], #[.slice none 0 0], []⟩ 8 (by kernel_rfl) (by kernel_rfl) (by kernel_rfl) (by kernel_rfl)) ?_
  intro W base args ds gs before hval0 hW hcnd _
  have hval : ∀ (j : Nat) t v, Try.f4.params[j]? = some t → args[j]? = some v → Value.okWide Try.prog W .any base t v := hval0
  have hW' := hW
  obtain ⟨p, q, hA0, hV, rfl, hfz, hnd⟩ := hW
  have hA : DataW.TrodAll enc Try.prog W 0 (fun _ => true) true Try.f4.params.toList args.toList ds p := hA0
  rw [Try.params4] at hA hval
  obtain ⟨v0, vs0, d0, ds0, p0, q0, hargs, rfl, rfl, h0, r0⟩ := trodAll_cons hA
  obtain ⟨rfl, rfl, rfl⟩ := trodAll_nil r0
  obtain rfl : args = #[v0] := by cases args; simp_all
  obtain ⟨rfl, rfl⟩ := trodVars_none hV
  obtain ⟨a0, len0, cap0, rfl⟩ := okWide_slice Try.underlying22 (hval 0 22 v0 rfl rfl)
  have k0 := h0
  have lt0 : ∀ x ∈ p0, x.block < W.heap.size := by obtain ⟨m, hm⟩ := k0; exact DataW.trod_lt m _ _ _ hm
  obtain ⟨z0, w0⟩ : ∃ zs, IsRow .u8 W a0 len0 cap0 zs := by
    obtain ⟨fuel, hf⟩ := h0
    rcases open_ints Try.underlying22 Try.underlying5 (by kernel_rfl) hf with ⟨hcs, _⟩ | ⟨x, l, c, zs, hcs, _, hl, hm, hz, _, hcell, hwz⟩
    · simp [Value.cells] at hcs
      obtain ⟨rfl, rfl, rfl⟩ := hcs
      exact ⟨[], .inl ⟨rfl, rfl, rfl, rfl⟩⟩
    · simp [Value.cells] at hcs
      obtain ⟨rfl, rfl, rfl⟩ := hcs
      exact ⟨zs, .inr ⟨_, rfl, hl, hm, by simpa using hz, hcell, hwz⟩⟩
  clear hA0 hval0
  refine (walk a0 len0 cap0 z0 W w0).mono fun e W' ⟨he, bel⟩ => ?_
  subst he
  exact ⟨_, rfl, _, _, _, [], _, [], hW', trodAll_mk1 (shut_bool Try.underlying4 _), (trodAll_cons_mk (Below.trod laidOut (by kernel_rfl) (of_decide_eq_true (by kernel_rfl)) k0 bel lt0) trodAll_mk0), rfl, bel.frame _, fun h => by cases h⟩

theorem over : Rows.fnHeapsBentRow.holds Try.pinned (OpenSpec.ofChange Rows.fnHeapsBentSpec) :=
  OpenClaim.holds_of_wide 4 Try.f4 rfl rfl rfl rfl rfl rfl rfl ⟨rfl, rfl, rfl, rfl, rfl⟩ rfl rfl rfl rfl rfl (by kernel_rfl) Try.func4 (by kernel_rfl)
    (of_decide_eq_true (by kernel_rfl)) (by unfold Func.isWrapper; first | (rw [if_pos (by decide +kernel)]; kernel_rfl) | (rw [if_neg (by decide +kernel)]; exact ⟨rfl, rfl⟩))
    (fun os started H enc _ => lifted os started H enc)

end Go.Proofs.Ytcjhieknmblbbaa.FnHeapsBent
namespace Go.Proofs.Ytcjhieknmblbbaa
theorem fnHeapsBent_holds : Rows.FnHeapsBentSaid := FnHeapsBent.over
#print axioms fnHeapsBent_holds
end Go.Proofs.Ytcjhieknmblbbaa
