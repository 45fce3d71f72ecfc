/-
  PROVED: at every list of timers impl.HeapTake answers as spec.HeapTake, leaves it as it was, keeps nothing of it, and its answer lies in memory of its own, so the law laws.FnExactHeapTake returns true, whatever its arguments. No condition.
-/
import Derived.Test.YtcjhieknmblbbaaRows
import Derived.WalkKit
import Derived.ProofKit
import Derived.OpenShut
import Derived.ShutString
import Derived.ChangeOld
import Derived.Below
import Derived.WalkLawsBesides
import Derived.WalkSpells
import Derived.Test.YtcjhieknmblbbaaTmX
import Derived.Test.YtcjhieknmblbbaaHpI
import Derived.Deep.RegionHeld3
namespace Go.Proofs.Ytcjhieknmblbbaa.FnExactHeapTake
open Go.ChangeShapes Go.WideShapes Go.ChangeAt Go.RowKit
open Go.ChangeMaps (open_string shut_string)
set_option linter.unusedVariables false

open Go.Proofs.Ytcjhieknmblbbaa.Hp Go.Proofs.Ytcjhieknmblbbaa.Tms Go.Proofs.Ytcjhieknmblbbaa.TmO Go.Proofs.Ytcjhieknmblbbaa.TmR Go.Proofs.Ytcjhieknmblbbaa.TmX Go.Proofs.Ytcjhieknmblbbaa.HpS Go.Proofs.Ytcjhieknmblbbaa.HpD Go.Proofs.Ytcjhieknmblbbaa.HpT Go.Proofs.Ytcjhieknmblbbaa.HpO Go.Proofs.Ytcjhieknmblbbaa.HpI Go.Proofs.Ytcjhieknmblbbaa.Over Go.Proofs.Ytcjhieknmblbbaa.Blk
open Go.Proofs.Ytcjhieknmblbbaa.Mark (Apart)
set_option linter.unusedVariables false
set_option maxRecDepth 100000 in
set_option maxHeartbeats 4000000 in
theorem walk0 (a0 : Option Addr) (cap0 : Nat) (l0 : List Tm) (w : World) (r0 : RdT w a0 l0) (m0 : l0.length ≤ maxLen) :
    Calls Try.prog 8 #[.slice a0 l0.length cap0] w fun e w' => e = .returned (.bool true) ∧ Below w.heap.size w w' := by

  have R0 : Hid (RdT w a0 l0) := r0
  have K0 : Hid (l0.length ≤ maxLen) := m0
  clear r0
  go_enter Try.func8, Try.ntmps8
  go_wp2_with fail
  refine (sz_any a0 cap0 l0 1048576 _ K0.out (by decide) (by decide)).mono ?_
  rintro e w1 ⟨⟨nn, rfl, h1, h2⟩, hb⟩
  by_cases hneg : nn < 0
  · go_wp2
    go_ret
    exact ⟨rfl, hb⟩
  have HL : Hid (l0.length ≤ 1048576) := by have := h2 (by omega); unfold Hid; omega
  clear h1 h2
  have B1 : Hid (Below w.heap.size w w1) := hb
  have Z1 : Hid (w.heap.size ≤ w1.heap.size) := hb.size
  have PL : Hid ((takeT l0).length ≤ l0.length + 1) := by rw [Hp.take_len]; unfold Hid; omega
  go_wp2_with fail
  refine (copyT_any a0 cap0 l0 _ (R0.out.below B1.out) HL.out).mono ?_
  rintro e w2 ⟨⟨rfl, ho⟩, hb⟩
  have NS : Hid (OT w1.heap.size w2 w1.heap.size l0.length l0) := ho
  have B2 : Hid (Below w.heap.size w w2) := grow_on B1.out hb
  have Z2 : Hid (w1.heap.size ≤ w2.heap.size) := hb.size
  clear hb
  have S_2 : Hid (OT w1.heap.size w2 w1.heap.size l0.length l0) := NS.out
  have US : Hid (w1.heap.size ≤ w1.heap.size ∧ w1.heap.size < w2.heap.size) := ⟨NS.out.lo, NS.out.lt⟩
  clear NS
  go_wp2_with fail
  refine (specTake_any _ 0 _ l0 _ S_2.out.rd (by have := HL.out; omega) (Nat.le_refl _)).mono ?_
  rintro e w3 ⟨⟨WM, Wc, rfl, ho⟩, hb⟩
  have NW : Hid (OT w2.heap.size w3 WM Wc (takeT l0)) := ho
  have B3 : Hid (Below w.heap.size w w3) := grow_on B2.out hb
  have Z3 : Hid (w2.heap.size ≤ w3.heap.size) := hb.size
  have S_3 : Hid (OT w1.heap.size w3 w1.heap.size l0.length l0) := S_2.out.grow hb
  clear hb S_2
  have W_3 : Hid (OT w2.heap.size w3 WM Wc (takeT l0)) := NW.out
  have UW : Hid (w2.heap.size ≤ WM ∧ WM < w3.heap.size) := ⟨NW.out.lo, NW.out.lt⟩
  clear NW
  go_upto_region 6 with fail
  generalize hz : w3.alloc (.cells #[.int .i64 (fstT l0).1, .int .i64 (fstT l0).2] 26) = w4
  have hbz : Below w3.heap.size w3 w4 := by rw [← hz]; exact Go.Joins.below_alloc1 w3 _
  have NQ1 : Hid (Blk w4 w3.heap.size #[.int .i64 (fstT l0).1, .int .i64 (fstT l0).2] 26) := by rw [← hz]; exact Blk.new _ _ _
  clear hz
  have B4 : Hid (Below w.heap.size w w4) := grow_on B3.out hbz
  have Z4 : Hid (w3.heap.size ≤ w4.heap.size) := hbz.size
  have S_4 : Hid (OT w1.heap.size w4 w1.heap.size l0.length l0) := S_3.out.grow hbz
  have W_4 : Hid (OT w2.heap.size w4 WM Wc (takeT l0)) := W_3.out.grow hbz
  clear hbz S_3 W_3
  have Q1_4 : Hid (Blk w4 w3.heap.size #[.int .i64 (fstT l0).1, .int .i64 (fstT l0).2] 26) := NQ1.out
  have UQ1 : Hid (w3.heap.size < w4.heap.size) := Q1_4.out.lt
  clear NQ1
  clear S_4
  have cQ10 : w4.cell? ⟨w3.heap.size, 0, none⟩ = some (.int .i64 (fstT l0).1) := Q1_4.out.cell 0
  have cQ11 : w4.cell? ⟨w3.heap.size, 1, none⟩ = some (.int .i64 (fstT l0).2) := Q1_4.out.cell 1
  go_wp2_with fail
  refine (copyT_any a0 cap0 l0 _ (R0.out.below B4.out) HL.out).mono ?_
  rintro e w5 ⟨⟨rfl, ho⟩, hb⟩
  have NX : Hid (OT w4.heap.size w5 w4.heap.size l0.length l0) := ho
  have B5 : Hid (Below w.heap.size w w5) := grow_on B4.out hb
  have Z5 : Hid (w4.heap.size ≤ w5.heap.size) := hb.size
  have W_5 : Hid (OT w2.heap.size w5 WM Wc (takeT l0)) := W_4.out.grow hb
  have Q1_5 : Hid (Blk w5 w3.heap.size #[.int .i64 (fstT l0).1, .int .i64 (fstT l0).2] 26) := Q1_4.out.grow hb
  clear hb cQ10 cQ11 W_4 Q1_4
  have X_5 : Hid (OT w4.heap.size w5 w4.heap.size l0.length l0) := NX.out
  have UX : Hid (w4.heap.size ≤ w4.heap.size ∧ w4.heap.size < w5.heap.size) := ⟨NX.out.lo, NX.out.lt⟩
  clear NX
  have cQ10 : w5.cell? ⟨w3.heap.size, 0, none⟩ = some (.int .i64 (fstT l0).1) := Q1_5.out.cell 0
  have cQ11 : w5.cell? ⟨w3.heap.size, 1, none⟩ = some (.int .i64 (fstT l0).2) := Q1_5.out.cell 1
  go_wp2_with fail
  refine (implTake_any _ 0 _ l0 _ X_5.out.rd (by have := HL.out; omega) (Nat.le_refl _)).mono ?_
  rintro e w6 ⟨⟨GM, Gc, rfl, ho⟩, hb⟩
  have NG : Hid (OT w5.heap.size w6 GM Gc (takeT l0)) := ho
  have B6 : Hid (Below w.heap.size w w6) := grow_on B5.out hb
  have Z6 : Hid (w5.heap.size ≤ w6.heap.size) := hb.size
  have W_6 : Hid (OT w2.heap.size w6 WM Wc (takeT l0)) := W_5.out.grow hb
  have Q1_6 : Hid (Blk w6 w3.heap.size #[.int .i64 (fstT l0).1, .int .i64 (fstT l0).2] 26) := Q1_5.out.grow hb
  have X_6 : Hid (OT w4.heap.size w6 w4.heap.size l0.length l0) := X_5.out.grow hb
  clear hb cQ10 cQ11 W_5 Q1_5 X_5
  have G_6 : Hid (OT w5.heap.size w6 GM Gc (takeT l0)) := NG.out
  have UG : Hid (w5.heap.size ≤ GM ∧ GM < w6.heap.size) := ⟨NG.out.lo, NG.out.lt⟩
  clear NG
  have cQ10 : w6.cell? ⟨w3.heap.size, 0, none⟩ = some (.int .i64 (fstT l0).1) := Q1_6.out.cell 0
  have cQ11 : w6.cell? ⟨w3.heap.size, 1, none⟩ = some (.int .i64 (fstT l0).2) := Q1_6.out.cell 1
  go_upto_region 8 with fail
  generalize hz : w6.alloc (.cells #[.int .i64 (fstT l0).1, .int .i64 (fstT l0).2] 26) = w7
  have hbz : Below w6.heap.size w6 w7 := by rw [← hz]; exact Go.Joins.below_alloc1 w6 _
  have NQ2 : Hid (Blk w7 w6.heap.size #[.int .i64 (fstT l0).1, .int .i64 (fstT l0).2] 26) := by rw [← hz]; exact Blk.new _ _ _
  clear hz
  have B7 : Hid (Below w.heap.size w w7) := grow_on B6.out hbz
  have Z7 : Hid (w6.heap.size ≤ w7.heap.size) := hbz.size
  have W_7 : Hid (OT w2.heap.size w7 WM Wc (takeT l0)) := W_6.out.grow hbz
  have Q1_7 : Hid (Blk w7 w3.heap.size #[.int .i64 (fstT l0).1, .int .i64 (fstT l0).2] 26) := Q1_6.out.grow hbz
  have X_7 : Hid (OT w4.heap.size w7 w4.heap.size l0.length l0) := X_6.out.grow hbz
  have G_7 : Hid (OT w5.heap.size w7 GM Gc (takeT l0)) := G_6.out.grow hbz
  clear hbz cQ10 cQ11 W_6 Q1_6 X_6 G_6
  have Q2_7 : Hid (Blk w7 w6.heap.size #[.int .i64 (fstT l0).1, .int .i64 (fstT l0).2] 26) := NQ2.out
  have UQ2 : Hid (w6.heap.size < w7.heap.size) := Q2_7.out.lt
  clear NQ2
  have cQ10 : w7.cell? ⟨w3.heap.size, 0, none⟩ = some (.int .i64 (fstT l0).1) := Q1_7.out.cell 0
  have cQ11 : w7.cell? ⟨w3.heap.size, 1, none⟩ = some (.int .i64 (fstT l0).2) := Q1_7.out.cell 1
  have cQ20 : w7.cell? ⟨w6.heap.size, 0, none⟩ = some (.int .i64 (fstT l0).1) := Q2_7.out.cell 0
  have cQ21 : w7.cell? ⟨w6.heap.size, 1, none⟩ = some (.int .i64 (fstT l0).2) := Q2_7.out.cell 1
  go_wp2_with fail
  refine (eqT_any _ _ _ _ (takeT l0) _ G_7.out.rd W_7.out.rd (by have := HL.out; have := PL.out; unfold maxLen at *; omega)).mono ?_
  rintro e w8 ⟨rfl, hb⟩
  have B8 : Hid (Below w.heap.size w w8) := grow_on B7.out hb
  have Z8 : Hid (w7.heap.size ≤ w8.heap.size) := hb.size
  have W_8 : Hid (OT w2.heap.size w8 WM Wc (takeT l0)) := W_7.out.grow hb
  have Q1_8 : Hid (Blk w8 w3.heap.size #[.int .i64 (fstT l0).1, .int .i64 (fstT l0).2] 26) := Q1_7.out.grow hb
  have X_8 : Hid (OT w4.heap.size w8 w4.heap.size l0.length l0) := X_7.out.grow hb
  have G_8 : Hid (OT w5.heap.size w8 GM Gc (takeT l0)) := G_7.out.grow hb
  have Q2_8 : Hid (Blk w8 w6.heap.size #[.int .i64 (fstT l0).1, .int .i64 (fstT l0).2] 26) := Q2_7.out.grow hb
  clear hb cQ10 cQ11 cQ20 cQ21 W_7 Q1_7 X_7 G_7 Q2_7
  have cQ10 : w8.cell? ⟨w3.heap.size, 0, none⟩ = some (.int .i64 (fstT l0).1) := Q1_8.out.cell 0
  have cQ11 : w8.cell? ⟨w3.heap.size, 1, none⟩ = some (.int .i64 (fstT l0).2) := Q1_8.out.cell 1
  have cQ20 : w8.cell? ⟨w6.heap.size, 0, none⟩ = some (.int .i64 (fstT l0).1) := Q2_8.out.cell 0
  have cQ21 : w8.cell? ⟨w6.heap.size, 1, none⟩ = some (.int .i64 (fstT l0).2) := Q2_8.out.cell 1
  go_wp2_with fail
  refine (eq1_any (fstT l0) _).mono ?_
  rintro e w9 ⟨rfl, hb⟩
  have B9 : Hid (Below w.heap.size w w9) := grow_on B8.out hb
  have Z9 : Hid (w8.heap.size ≤ w9.heap.size) := hb.size
  have W_9 : Hid (OT w2.heap.size w9 WM Wc (takeT l0)) := W_8.out.grow hb
  have Q1_9 : Hid (Blk w9 w3.heap.size #[.int .i64 (fstT l0).1, .int .i64 (fstT l0).2] 26) := Q1_8.out.grow hb
  have X_9 : Hid (OT w4.heap.size w9 w4.heap.size l0.length l0) := X_8.out.grow hb
  have G_9 : Hid (OT w5.heap.size w9 GM Gc (takeT l0)) := G_8.out.grow hb
  have Q2_9 : Hid (Blk w9 w6.heap.size #[.int .i64 (fstT l0).1, .int .i64 (fstT l0).2] 26) := Q2_8.out.grow hb
  clear hb cQ10 cQ11 cQ20 cQ21 W_8 Q1_8 X_8 G_8 Q2_8
  have cQ10 : w9.cell? ⟨w3.heap.size, 0, none⟩ = some (.int .i64 (fstT l0).1) := Q1_9.out.cell 0
  have cQ11 : w9.cell? ⟨w3.heap.size, 1, none⟩ = some (.int .i64 (fstT l0).2) := Q1_9.out.cell 1
  have cQ20 : w9.cell? ⟨w6.heap.size, 0, none⟩ = some (.int .i64 (fstT l0).1) := Q2_9.out.cell 0
  have cQ21 : w9.cell? ⟨w6.heap.size, 1, none⟩ = some (.int .i64 (fstT l0).2) := Q2_9.out.cell 1
  go_wp2_with fail
  refine (copyT_any a0 cap0 l0 _ (R0.out.below B9.out) HL.out).mono ?_
  rintro e w10 ⟨⟨rfl, ho⟩, hb⟩
  have NE : Hid (OT w9.heap.size w10 w9.heap.size l0.length l0) := ho
  have B10 : Hid (Below w.heap.size w w10) := grow_on B9.out hb
  have Z10 : Hid (w9.heap.size ≤ w10.heap.size) := hb.size
  have W_10 : Hid (OT w2.heap.size w10 WM Wc (takeT l0)) := W_9.out.grow hb
  have Q1_10 : Hid (Blk w10 w3.heap.size #[.int .i64 (fstT l0).1, .int .i64 (fstT l0).2] 26) := Q1_9.out.grow hb
  have X_10 : Hid (OT w4.heap.size w10 w4.heap.size l0.length l0) := X_9.out.grow hb
  have G_10 : Hid (OT w5.heap.size w10 GM Gc (takeT l0)) := G_9.out.grow hb
  have Q2_10 : Hid (Blk w10 w6.heap.size #[.int .i64 (fstT l0).1, .int .i64 (fstT l0).2] 26) := Q2_9.out.grow hb
  clear hb cQ10 cQ11 cQ20 cQ21 W_9 Q1_9 X_9 G_9 Q2_9
  have E_10 : Hid (OT w9.heap.size w10 w9.heap.size l0.length l0) := NE.out
  have UE : Hid (w9.heap.size ≤ w9.heap.size ∧ w9.heap.size < w10.heap.size) := ⟨NE.out.lo, NE.out.lt⟩
  clear NE
  have cQ10 : w10.cell? ⟨w3.heap.size, 0, none⟩ = some (.int .i64 (fstT l0).1) := Q1_10.out.cell 0
  have cQ11 : w10.cell? ⟨w3.heap.size, 1, none⟩ = some (.int .i64 (fstT l0).2) := Q1_10.out.cell 1
  have cQ20 : w10.cell? ⟨w6.heap.size, 0, none⟩ = some (.int .i64 (fstT l0).1) := Q2_10.out.cell 0
  have cQ21 : w10.cell? ⟨w6.heap.size, 1, none⟩ = some (.int .i64 (fstT l0).2) := Q2_10.out.cell 1
  go_wp2_with fail
  refine (eqT_any _ _ _ _ l0 _ X_10.out.rd E_10.out.rd (by have := HL.out; have := K0.out; unfold maxLen at *; omega)).mono ?_
  rintro e w11 ⟨rfl, hb⟩
  have B11 : Hid (Below w.heap.size w w11) := grow_on B10.out hb
  have Z11 : Hid (w10.heap.size ≤ w11.heap.size) := hb.size
  have W_11 : Hid (OT w2.heap.size w11 WM Wc (takeT l0)) := W_10.out.grow hb
  have Q1_11 : Hid (Blk w11 w3.heap.size #[.int .i64 (fstT l0).1, .int .i64 (fstT l0).2] 26) := Q1_10.out.grow hb
  have X_11 : Hid (OT w4.heap.size w11 w4.heap.size l0.length l0) := X_10.out.grow hb
  have G_11 : Hid (OT w5.heap.size w11 GM Gc (takeT l0)) := G_10.out.grow hb
  have Q2_11 : Hid (Blk w11 w6.heap.size #[.int .i64 (fstT l0).1, .int .i64 (fstT l0).2] 26) := Q2_10.out.grow hb
  have E_11 : Hid (OT w9.heap.size w11 w9.heap.size l0.length l0) := E_10.out.grow hb
  clear hb cQ10 cQ11 cQ20 cQ21 W_10 Q1_10 X_10 G_10 Q2_10 E_10
  clear E_11
  have cQ10 : w11.cell? ⟨w3.heap.size, 0, none⟩ = some (.int .i64 (fstT l0).1) := Q1_11.out.cell 0
  have cQ11 : w11.cell? ⟨w3.heap.size, 1, none⟩ = some (.int .i64 (fstT l0).2) := Q1_11.out.cell 1
  have cQ20 : w11.cell? ⟨w6.heap.size, 0, none⟩ = some (.int .i64 (fstT l0).1) := Q2_11.out.cell 0
  have cQ21 : w11.cell? ⟨w6.heap.size, 1, none⟩ = some (.int .i64 (fstT l0).2) := Q2_11.out.cell 1
  go_wp2_with fail
  refine (markT_any _ _ _ _ 1 l0 _ X_11.out (by have := HL.out; have := PL.out; omega) (by decide) (by decide)).mono ?_
  rintro e w12 ⟨rfl, hm, ha⟩
  have B12 : Hid (Below w.heap.size w w12) := B11.out.trans (ha.low (by have := Z1.out; have := Z2.out; have := US.out; have := Z3.out; have := UW.out; have := Z4.out; have := UQ1.out; have := Z5.out; have := UX.out; have := Z6.out; have := UG.out; have := Z7.out; have := UQ2.out; have := Z8.out; have := Z9.out; have := Z10.out; have := UE.out; have := Z11.out; omega) B11.out.size)
  have Z12 : Hid (w11.heap.size ≤ w12.heap.size) := ha.size
  have W_12 : Hid (OT w2.heap.size w12 WM Wc (takeT l0)) := ot_apart W_11.out ha (by have := Z1.out; have := Z2.out; have := US.out; have := Z3.out; have := UW.out; have := Z4.out; have := UQ1.out; have := Z5.out; have := UX.out; have := Z6.out; have := UG.out; have := Z7.out; have := UQ2.out; have := Z8.out; have := Z9.out; have := Z10.out; have := UE.out; have := Z11.out; have := Z12.out; omega)
  have Q1_12 : Hid (Blk w12 w3.heap.size #[.int .i64 (fstT l0).1, .int .i64 (fstT l0).2] 26) := ha.blk Q1_11.out (by have := Z1.out; have := Z2.out; have := US.out; have := Z3.out; have := UW.out; have := Z4.out; have := UQ1.out; have := Z5.out; have := UX.out; have := Z6.out; have := UG.out; have := Z7.out; have := UQ2.out; have := Z8.out; have := Z9.out; have := Z10.out; have := UE.out; have := Z11.out; have := Z12.out; omega)
  have G_12 : Hid (OT w5.heap.size w12 GM Gc (takeT l0)) := ot_apart G_11.out ha (by have := Z1.out; have := Z2.out; have := US.out; have := Z3.out; have := UW.out; have := Z4.out; have := UQ1.out; have := Z5.out; have := UX.out; have := Z6.out; have := UG.out; have := Z7.out; have := UQ2.out; have := Z8.out; have := Z9.out; have := Z10.out; have := UE.out; have := Z11.out; have := Z12.out; omega)
  have Q2_12 : Hid (Blk w12 w6.heap.size #[.int .i64 (fstT l0).1, .int .i64 (fstT l0).2] 26) := ha.blk Q2_11.out (by have := Z1.out; have := Z2.out; have := US.out; have := Z3.out; have := UW.out; have := Z4.out; have := UQ1.out; have := Z5.out; have := UX.out; have := Z6.out; have := UG.out; have := Z7.out; have := UQ2.out; have := Z8.out; have := Z9.out; have := Z10.out; have := UE.out; have := Z11.out; have := Z12.out; omega)
  clear ha cQ10 cQ11 cQ20 cQ21 W_11 Q1_11 X_11 G_11 Q2_11
  have X_12 : Hid (MT w12 w4.heap.size 1 l0.length) := hm
  clear hm
  clear X_12
  have hq : ¬ ((1 + 2 * l0.length : Nat) : Int) < 0 := by omega
  have cQ10 : w12.cell? ⟨w3.heap.size, 0, none⟩ = some (.int .i64 (fstT l0).1) := Q1_12.out.cell 0
  have cQ11 : w12.cell? ⟨w3.heap.size, 1, none⟩ = some (.int .i64 (fstT l0).2) := Q1_12.out.cell 1
  have cQ20 : w12.cell? ⟨w6.heap.size, 0, none⟩ = some (.int .i64 (fstT l0).1) := Q2_12.out.cell 0
  have cQ21 : w12.cell? ⟨w6.heap.size, 1, none⟩ = some (.int .i64 (fstT l0).2) := Q2_12.out.cell 1
  go_wp2_with fail
  refine (eqT_any _ _ _ _ (takeT l0) _ G_12.out.rd W_12.out.rd (by have := HL.out; have := PL.out; unfold maxLen at *; omega)).mono ?_
  rintro e w13 ⟨rfl, hb⟩
  have B13 : Hid (Below w.heap.size w w13) := grow_on B12.out hb
  have Z13 : Hid (w12.heap.size ≤ w13.heap.size) := hb.size
  have W_13 : Hid (OT w2.heap.size w13 WM Wc (takeT l0)) := W_12.out.grow hb
  have Q1_13 : Hid (Blk w13 w3.heap.size #[.int .i64 (fstT l0).1, .int .i64 (fstT l0).2] 26) := Q1_12.out.grow hb
  have G_13 : Hid (OT w5.heap.size w13 GM Gc (takeT l0)) := G_12.out.grow hb
  have Q2_13 : Hid (Blk w13 w6.heap.size #[.int .i64 (fstT l0).1, .int .i64 (fstT l0).2] 26) := Q2_12.out.grow hb
  clear hb cQ10 cQ11 cQ20 cQ21 W_12 Q1_12 G_12 Q2_12
  have cQ10 : w13.cell? ⟨w3.heap.size, 0, none⟩ = some (.int .i64 (fstT l0).1) := Q1_13.out.cell 0
  have cQ11 : w13.cell? ⟨w3.heap.size, 1, none⟩ = some (.int .i64 (fstT l0).2) := Q1_13.out.cell 1
  have cQ20 : w13.cell? ⟨w6.heap.size, 0, none⟩ = some (.int .i64 (fstT l0).1) := Q2_13.out.cell 0
  have cQ21 : w13.cell? ⟨w6.heap.size, 1, none⟩ = some (.int .i64 (fstT l0).2) := Q2_13.out.cell 1
  go_wp2_with fail
  refine (eq1_any (fstT l0) _).mono ?_
  rintro e w14 ⟨rfl, hb⟩
  have B14 : Hid (Below w.heap.size w w14) := grow_on B13.out hb
  have Z14 : Hid (w13.heap.size ≤ w14.heap.size) := hb.size
  have W_14 : Hid (OT w2.heap.size w14 WM Wc (takeT l0)) := W_13.out.grow hb
  have Q1_14 : Hid (Blk w14 w3.heap.size #[.int .i64 (fstT l0).1, .int .i64 (fstT l0).2] 26) := Q1_13.out.grow hb
  have G_14 : Hid (OT w5.heap.size w14 GM Gc (takeT l0)) := G_13.out.grow hb
  have Q2_14 : Hid (Blk w14 w6.heap.size #[.int .i64 (fstT l0).1, .int .i64 (fstT l0).2] 26) := Q2_13.out.grow hb
  clear hb cQ10 cQ11 cQ20 cQ21 W_13 Q1_13 G_13 Q2_13
  clear hq
  have cQ10 : w14.cell? ⟨w3.heap.size, 0, none⟩ = some (.int .i64 (fstT l0).1) := Q1_14.out.cell 0
  have cQ11 : w14.cell? ⟨w3.heap.size, 1, none⟩ = some (.int .i64 (fstT l0).2) := Q1_14.out.cell 1
  have cQ20 : w14.cell? ⟨w6.heap.size, 0, none⟩ = some (.int .i64 (fstT l0).1) := Q2_14.out.cell 0
  have cQ21 : w14.cell? ⟨w6.heap.size, 1, none⟩ = some (.int .i64 (fstT l0).2) := Q2_14.out.cell 1
  go_wp2_with fail
  refine (markT_any _ _ _ _ 1 (takeT l0) _ G_14.out (by have := HL.out; have := PL.out; omega) (by decide) (by decide)).mono ?_
  rintro e w15 ⟨rfl, hm, ha⟩
  have B15 : Hid (Below w.heap.size w w15) := B14.out.trans (ha.low (by have := Z1.out; have := Z2.out; have := US.out; have := Z3.out; have := UW.out; have := Z4.out; have := UQ1.out; have := Z5.out; have := UX.out; have := Z6.out; have := UG.out; have := Z7.out; have := UQ2.out; have := Z8.out; have := Z9.out; have := Z10.out; have := UE.out; have := Z11.out; have := Z12.out; have := Z13.out; have := Z14.out; omega) B14.out.size)
  have Z15 : Hid (w14.heap.size ≤ w15.heap.size) := ha.size
  have W_15 : Hid (OT w2.heap.size w15 WM Wc (takeT l0)) := ot_apart W_14.out ha (by have := Z1.out; have := Z2.out; have := US.out; have := Z3.out; have := UW.out; have := Z4.out; have := UQ1.out; have := Z5.out; have := UX.out; have := Z6.out; have := UG.out; have := Z7.out; have := UQ2.out; have := Z8.out; have := Z9.out; have := Z10.out; have := UE.out; have := Z11.out; have := Z12.out; have := Z13.out; have := Z14.out; have := Z15.out; omega)
  have Q1_15 : Hid (Blk w15 w3.heap.size #[.int .i64 (fstT l0).1, .int .i64 (fstT l0).2] 26) := ha.blk Q1_14.out (by have := Z1.out; have := Z2.out; have := US.out; have := Z3.out; have := UW.out; have := Z4.out; have := UQ1.out; have := Z5.out; have := UX.out; have := Z6.out; have := UG.out; have := Z7.out; have := UQ2.out; have := Z8.out; have := Z9.out; have := Z10.out; have := UE.out; have := Z11.out; have := Z12.out; have := Z13.out; have := Z14.out; have := Z15.out; omega)
  have Q2_15 : Hid (Blk w15 w6.heap.size #[.int .i64 (fstT l0).1, .int .i64 (fstT l0).2] 26) := ha.blk Q2_14.out (by have := Z1.out; have := Z2.out; have := US.out; have := Z3.out; have := UW.out; have := Z4.out; have := UQ1.out; have := Z5.out; have := UX.out; have := Z6.out; have := UG.out; have := Z7.out; have := UQ2.out; have := Z8.out; have := Z9.out; have := Z10.out; have := UE.out; have := Z11.out; have := Z12.out; have := Z13.out; have := Z14.out; have := Z15.out; omega)
  clear ha cQ10 cQ11 cQ20 cQ21 W_14 Q1_14 G_14 Q2_14
  have G_15 : Hid (MT w15 GM 1 (takeT l0).length) := hm
  clear hm
  have hq : ¬ ((1 + 2 * (takeT l0).length : Nat) : Int) < 0 := by omega
  have cQ10 : w15.cell? ⟨w3.heap.size, 0, none⟩ = some (.int .i64 (fstT l0).1) := Q1_15.out.cell 0
  have cQ11 : w15.cell? ⟨w3.heap.size, 1, none⟩ = some (.int .i64 (fstT l0).2) := Q1_15.out.cell 1
  have cQ20 : w15.cell? ⟨w6.heap.size, 0, none⟩ = some (.int .i64 (fstT l0).1) := Q2_15.out.cell 0
  have cQ21 : w15.cell? ⟨w6.heap.size, 1, none⟩ = some (.int .i64 (fstT l0).2) := Q2_15.out.cell 1
  go_wp2_with fail
  refine (heldT_any GM (takeT l0).length _ 1 _ G_15.out (by have := HL.out; have := PL.out; omega) (by decide) (by decide)).mono ?_
  rintro e w16 ⟨rfl, hb⟩
  have B16 : Hid (Below w.heap.size w w16) := grow_on B15.out hb
  have Z16 : Hid (w15.heap.size ≤ w16.heap.size) := hb.size
  have W_16 : Hid (OT w2.heap.size w16 WM Wc (takeT l0)) := W_15.out.grow hb
  have Q1_16 : Hid (Blk w16 w3.heap.size #[.int .i64 (fstT l0).1, .int .i64 (fstT l0).2] 26) := Q1_15.out.grow hb
  have Q2_16 : Hid (Blk w16 w6.heap.size #[.int .i64 (fstT l0).1, .int .i64 (fstT l0).2] 26) := Q2_15.out.grow hb
  have G_16 : Hid (MT w16 GM 1 (takeT l0).length) := G_15.out.grow hb
  clear hb cQ10 cQ11 cQ20 cQ21 W_15 Q1_15 Q2_15 G_15
  clear hq
  have cQ10 : w16.cell? ⟨w3.heap.size, 0, none⟩ = some (.int .i64 (fstT l0).1) := Q1_16.out.cell 0
  have cQ11 : w16.cell? ⟨w3.heap.size, 1, none⟩ = some (.int .i64 (fstT l0).2) := Q1_16.out.cell 1
  have cQ20 : w16.cell? ⟨w6.heap.size, 0, none⟩ = some (.int .i64 (fstT l0).1) := Q2_16.out.cell 0
  have cQ21 : w16.cell? ⟨w6.heap.size, 1, none⟩ = some (.int .i64 (fstT l0).2) := Q2_16.out.cell 1
  go_wp2_with fail
  refine (copyT_any a0 cap0 l0 _ (R0.out.below B16.out) HL.out).mono ?_
  rintro e w17 ⟨⟨rfl, ho⟩, hb⟩
  have NY : Hid (OT w16.heap.size w17 w16.heap.size l0.length l0) := ho
  have B17 : Hid (Below w.heap.size w w17) := grow_on B16.out hb
  have Z17 : Hid (w16.heap.size ≤ w17.heap.size) := hb.size
  have W_17 : Hid (OT w2.heap.size w17 WM Wc (takeT l0)) := W_16.out.grow hb
  have Q1_17 : Hid (Blk w17 w3.heap.size #[.int .i64 (fstT l0).1, .int .i64 (fstT l0).2] 26) := Q1_16.out.grow hb
  have Q2_17 : Hid (Blk w17 w6.heap.size #[.int .i64 (fstT l0).1, .int .i64 (fstT l0).2] 26) := Q2_16.out.grow hb
  have G_17 : Hid (MT w17 GM 1 (takeT l0).length) := G_16.out.grow hb
  clear hb cQ10 cQ11 cQ20 cQ21 W_16 Q1_16 Q2_16 G_16
  have Y_17 : Hid (OT w16.heap.size w17 w16.heap.size l0.length l0) := NY.out
  have UY : Hid (w16.heap.size ≤ w16.heap.size ∧ w16.heap.size < w17.heap.size) := ⟨NY.out.lo, NY.out.lt⟩
  clear NY
  have cQ10 : w17.cell? ⟨w3.heap.size, 0, none⟩ = some (.int .i64 (fstT l0).1) := Q1_17.out.cell 0
  have cQ11 : w17.cell? ⟨w3.heap.size, 1, none⟩ = some (.int .i64 (fstT l0).2) := Q1_17.out.cell 1
  have cQ20 : w17.cell? ⟨w6.heap.size, 0, none⟩ = some (.int .i64 (fstT l0).1) := Q2_17.out.cell 0
  have cQ21 : w17.cell? ⟨w6.heap.size, 1, none⟩ = some (.int .i64 (fstT l0).2) := Q2_17.out.cell 1
  go_wp2_with fail
  refine (implTake_any _ 0 _ l0 _ Y_17.out.rd (by have := HL.out; omega) (Nat.le_refl _)).mono ?_
  rintro e w18 ⟨⟨HM, Hc, rfl, ho⟩, hb⟩
  have NH : Hid (OT w17.heap.size w18 HM Hc (takeT l0)) := ho
  have B18 : Hid (Below w.heap.size w w18) := grow_on B17.out hb
  have Z18 : Hid (w17.heap.size ≤ w18.heap.size) := hb.size
  have W_18 : Hid (OT w2.heap.size w18 WM Wc (takeT l0)) := W_17.out.grow hb
  have Q1_18 : Hid (Blk w18 w3.heap.size #[.int .i64 (fstT l0).1, .int .i64 (fstT l0).2] 26) := Q1_17.out.grow hb
  have Q2_18 : Hid (Blk w18 w6.heap.size #[.int .i64 (fstT l0).1, .int .i64 (fstT l0).2] 26) := Q2_17.out.grow hb
  have G_18 : Hid (MT w18 GM 1 (takeT l0).length) := G_17.out.grow hb
  have Y_18 : Hid (OT w16.heap.size w18 w16.heap.size l0.length l0) := Y_17.out.grow hb
  clear hb cQ10 cQ11 cQ20 cQ21 W_17 Q1_17 Q2_17 G_17 Y_17
  have H_18 : Hid (OT w17.heap.size w18 HM Hc (takeT l0)) := NH.out
  have UH : Hid (w17.heap.size ≤ HM ∧ HM < w18.heap.size) := ⟨NH.out.lo, NH.out.lt⟩
  clear NH
  have cQ10 : w18.cell? ⟨w3.heap.size, 0, none⟩ = some (.int .i64 (fstT l0).1) := Q1_18.out.cell 0
  have cQ11 : w18.cell? ⟨w3.heap.size, 1, none⟩ = some (.int .i64 (fstT l0).2) := Q1_18.out.cell 1
  have cQ20 : w18.cell? ⟨w6.heap.size, 0, none⟩ = some (.int .i64 (fstT l0).1) := Q2_18.out.cell 0
  have cQ21 : w18.cell? ⟨w6.heap.size, 1, none⟩ = some (.int .i64 (fstT l0).2) := Q2_18.out.cell 1
  go_upto_region 25 with fail
  generalize hz : w18.alloc (.cells #[.int .i64 (fstT l0).1, .int .i64 (fstT l0).2] 26) = w19
  have hbz : Below w18.heap.size w18 w19 := by rw [← hz]; exact Go.Joins.below_alloc1 w18 _
  have NQ3 : Hid (Blk w19 w18.heap.size #[.int .i64 (fstT l0).1, .int .i64 (fstT l0).2] 26) := by rw [← hz]; exact Blk.new _ _ _
  clear hz
  have B19 : Hid (Below w.heap.size w w19) := grow_on B18.out hbz
  have Z19 : Hid (w18.heap.size ≤ w19.heap.size) := hbz.size
  have W_19 : Hid (OT w2.heap.size w19 WM Wc (takeT l0)) := W_18.out.grow hbz
  have Q1_19 : Hid (Blk w19 w3.heap.size #[.int .i64 (fstT l0).1, .int .i64 (fstT l0).2] 26) := Q1_18.out.grow hbz
  have Q2_19 : Hid (Blk w19 w6.heap.size #[.int .i64 (fstT l0).1, .int .i64 (fstT l0).2] 26) := Q2_18.out.grow hbz
  have G_19 : Hid (MT w19 GM 1 (takeT l0).length) := G_18.out.grow hbz
  have Y_19 : Hid (OT w16.heap.size w19 w16.heap.size l0.length l0) := Y_18.out.grow hbz
  have H_19 : Hid (OT w17.heap.size w19 HM Hc (takeT l0)) := H_18.out.grow hbz
  clear hbz cQ10 cQ11 cQ20 cQ21 W_18 Q1_18 Q2_18 G_18 Y_18 H_18
  have Q3_19 : Hid (Blk w19 w18.heap.size #[.int .i64 (fstT l0).1, .int .i64 (fstT l0).2] 26) := NQ3.out
  have UQ3 : Hid (w18.heap.size < w19.heap.size) := Q3_19.out.lt
  clear NQ3
  have cQ10 : w19.cell? ⟨w3.heap.size, 0, none⟩ = some (.int .i64 (fstT l0).1) := Q1_19.out.cell 0
  have cQ11 : w19.cell? ⟨w3.heap.size, 1, none⟩ = some (.int .i64 (fstT l0).2) := Q1_19.out.cell 1
  have cQ20 : w19.cell? ⟨w6.heap.size, 0, none⟩ = some (.int .i64 (fstT l0).1) := Q2_19.out.cell 0
  have cQ21 : w19.cell? ⟨w6.heap.size, 1, none⟩ = some (.int .i64 (fstT l0).2) := Q2_19.out.cell 1
  have cQ30 : w19.cell? ⟨w18.heap.size, 0, none⟩ = some (.int .i64 (fstT l0).1) := Q3_19.out.cell 0
  have cQ31 : w19.cell? ⟨w18.heap.size, 1, none⟩ = some (.int .i64 (fstT l0).2) := Q3_19.out.cell 1
  go_wp2_with fail
  refine (eqT_any _ _ _ _ (takeT l0) _ H_19.out.rd W_19.out.rd (by have := HL.out; have := PL.out; unfold maxLen at *; omega)).mono ?_
  rintro e w20 ⟨rfl, hb⟩
  have B20 : Hid (Below w.heap.size w w20) := grow_on B19.out hb
  have Z20 : Hid (w19.heap.size ≤ w20.heap.size) := hb.size
  have W_20 : Hid (OT w2.heap.size w20 WM Wc (takeT l0)) := W_19.out.grow hb
  have Q1_20 : Hid (Blk w20 w3.heap.size #[.int .i64 (fstT l0).1, .int .i64 (fstT l0).2] 26) := Q1_19.out.grow hb
  have Q2_20 : Hid (Blk w20 w6.heap.size #[.int .i64 (fstT l0).1, .int .i64 (fstT l0).2] 26) := Q2_19.out.grow hb
  have G_20 : Hid (MT w20 GM 1 (takeT l0).length) := G_19.out.grow hb
  have Y_20 : Hid (OT w16.heap.size w20 w16.heap.size l0.length l0) := Y_19.out.grow hb
  have H_20 : Hid (OT w17.heap.size w20 HM Hc (takeT l0)) := H_19.out.grow hb
  have Q3_20 : Hid (Blk w20 w18.heap.size #[.int .i64 (fstT l0).1, .int .i64 (fstT l0).2] 26) := Q3_19.out.grow hb
  clear hb cQ10 cQ11 cQ20 cQ21 cQ30 cQ31 W_19 Q1_19 Q2_19 G_19 Y_19 H_19 Q3_19
  have cQ10 : w20.cell? ⟨w3.heap.size, 0, none⟩ = some (.int .i64 (fstT l0).1) := Q1_20.out.cell 0
  have cQ11 : w20.cell? ⟨w3.heap.size, 1, none⟩ = some (.int .i64 (fstT l0).2) := Q1_20.out.cell 1
  have cQ20 : w20.cell? ⟨w6.heap.size, 0, none⟩ = some (.int .i64 (fstT l0).1) := Q2_20.out.cell 0
  have cQ21 : w20.cell? ⟨w6.heap.size, 1, none⟩ = some (.int .i64 (fstT l0).2) := Q2_20.out.cell 1
  have cQ30 : w20.cell? ⟨w18.heap.size, 0, none⟩ = some (.int .i64 (fstT l0).1) := Q3_20.out.cell 0
  have cQ31 : w20.cell? ⟨w18.heap.size, 1, none⟩ = some (.int .i64 (fstT l0).2) := Q3_20.out.cell 1
  go_wp2_with fail
  refine (eq1_any (fstT l0) _).mono ?_
  rintro e w21 ⟨rfl, hb⟩
  have B21 : Hid (Below w.heap.size w w21) := grow_on B20.out hb
  have Z21 : Hid (w20.heap.size ≤ w21.heap.size) := hb.size
  have W_21 : Hid (OT w2.heap.size w21 WM Wc (takeT l0)) := W_20.out.grow hb
  have Q1_21 : Hid (Blk w21 w3.heap.size #[.int .i64 (fstT l0).1, .int .i64 (fstT l0).2] 26) := Q1_20.out.grow hb
  have Q2_21 : Hid (Blk w21 w6.heap.size #[.int .i64 (fstT l0).1, .int .i64 (fstT l0).2] 26) := Q2_20.out.grow hb
  have G_21 : Hid (MT w21 GM 1 (takeT l0).length) := G_20.out.grow hb
  have Y_21 : Hid (OT w16.heap.size w21 w16.heap.size l0.length l0) := Y_20.out.grow hb
  have H_21 : Hid (OT w17.heap.size w21 HM Hc (takeT l0)) := H_20.out.grow hb
  have Q3_21 : Hid (Blk w21 w18.heap.size #[.int .i64 (fstT l0).1, .int .i64 (fstT l0).2] 26) := Q3_20.out.grow hb
  clear hb cQ10 cQ11 cQ20 cQ21 cQ30 cQ31 W_20 Q1_20 Q2_20 G_20 Y_20 H_20 Q3_20
  have hq : ¬ ((1 + 2 * (takeT l0).length : Nat) : Int) < 0 := by omega
  have cQ10 : w21.cell? ⟨w3.heap.size, 0, none⟩ = some (.int .i64 (fstT l0).1) := Q1_21.out.cell 0
  have cQ11 : w21.cell? ⟨w3.heap.size, 1, none⟩ = some (.int .i64 (fstT l0).2) := Q1_21.out.cell 1
  have cQ20 : w21.cell? ⟨w6.heap.size, 0, none⟩ = some (.int .i64 (fstT l0).1) := Q2_21.out.cell 0
  have cQ21 : w21.cell? ⟨w6.heap.size, 1, none⟩ = some (.int .i64 (fstT l0).2) := Q2_21.out.cell 1
  have cQ30 : w21.cell? ⟨w18.heap.size, 0, none⟩ = some (.int .i64 (fstT l0).1) := Q3_21.out.cell 0
  have cQ31 : w21.cell? ⟨w18.heap.size, 1, none⟩ = some (.int .i64 (fstT l0).2) := Q3_21.out.cell 1
  go_wp2_with fail
  refine (heldT_any GM (takeT l0).length _ 1 _ G_21.out (by have := HL.out; have := PL.out; omega) (by decide) (by decide)).mono ?_
  rintro e w22 ⟨rfl, hb⟩
  have B22 : Hid (Below w.heap.size w w22) := grow_on B21.out hb
  have Z22 : Hid (w21.heap.size ≤ w22.heap.size) := hb.size
  have W_22 : Hid (OT w2.heap.size w22 WM Wc (takeT l0)) := W_21.out.grow hb
  have Q1_22 : Hid (Blk w22 w3.heap.size #[.int .i64 (fstT l0).1, .int .i64 (fstT l0).2] 26) := Q1_21.out.grow hb
  have Q2_22 : Hid (Blk w22 w6.heap.size #[.int .i64 (fstT l0).1, .int .i64 (fstT l0).2] 26) := Q2_21.out.grow hb
  have G_22 : Hid (MT w22 GM 1 (takeT l0).length) := G_21.out.grow hb
  have Y_22 : Hid (OT w16.heap.size w22 w16.heap.size l0.length l0) := Y_21.out.grow hb
  have H_22 : Hid (OT w17.heap.size w22 HM Hc (takeT l0)) := H_21.out.grow hb
  have Q3_22 : Hid (Blk w22 w18.heap.size #[.int .i64 (fstT l0).1, .int .i64 (fstT l0).2] 26) := Q3_21.out.grow hb
  clear hb cQ10 cQ11 cQ20 cQ21 cQ30 cQ31 W_21 Q1_21 Q2_21 G_21 Y_21 H_21 Q3_21
  have cQ10 : w22.cell? ⟨w3.heap.size, 0, none⟩ = some (.int .i64 (fstT l0).1) := Q1_22.out.cell 0
  have cQ11 : w22.cell? ⟨w3.heap.size, 1, none⟩ = some (.int .i64 (fstT l0).2) := Q1_22.out.cell 1
  have cQ20 : w22.cell? ⟨w6.heap.size, 0, none⟩ = some (.int .i64 (fstT l0).1) := Q2_22.out.cell 0
  have cQ21 : w22.cell? ⟨w6.heap.size, 1, none⟩ = some (.int .i64 (fstT l0).2) := Q2_22.out.cell 1
  have cQ30 : w22.cell? ⟨w18.heap.size, 0, none⟩ = some (.int .i64 (fstT l0).1) := Q3_22.out.cell 0
  have cQ31 : w22.cell? ⟨w18.heap.size, 1, none⟩ = some (.int .i64 (fstT l0).2) := Q3_22.out.cell 1
  go_wp2
  go_ret
  exact ⟨rfl, B22.out⟩
theorem walk (a0 : Option Addr) (cap0 : Nat) (l0 : List Tm) (w : World) (r0 : RdT w a0 l0) (m0 : l0.length ≤ maxLen) :
    Calls Try.prog 8 #[.slice a0 l0.length cap0] w fun e w' => e = .returned (.bool true) ∧ Below w.heap.size w w' := walk0 a0 cap0 l0 w r0 m0
theorem own : ownKnob Try.prog.godebug = none := by kernel_rfl
theorem laidOut : laidOutB Try.prog = true := by kernel_rfl
set_option maxRecDepth 100000 in
theorem lifted (os : Os) (started : os.Started) (H : Type) (enc : TypeId × Value → H) :
    ReturnsInHanded {} Try.checked os 8 .any (Rows.fnExactHeapTakeSpec.pre6 enc Try.prog Try.f8 Rows.fnExactHeapTakeRow.domain false) (Rows.fnExactHeapTakeSpec.post enc Try.prog Try.f8 false true false false) := by
  refine returnsInHanded_of_change (C := Try.checked) own started (by kernel_rfl) Try.func8
    (ChangeSpec.witness6 (enc := enc) (C := Try.checked) false ⟨#[], #[.slice none 0 0], []⟩ 8 (by kernel_rfl) (by kernel_rfl) (by kernel_rfl) (by kernel_rfl)) ?_
  intro W base args ds gs before hval0 hW hcnd _
  have hval : ∀ (j : Nat) t v, Try.f8.params[j]? = some t → args[j]? = some v → Value.okWide Try.prog W .any base t v := hval0
  have hW' := hW
  obtain ⟨p, q, hA0, hV, rfl, hfz, hnd⟩ := hW
  have hA : DataW.TrodAll enc Try.prog W 0 (fun _ => true) true Try.f8.params.toList args.toList ds p := hA0
  rw [Try.params8] at hA hval
  obtain ⟨v0, vs0, d0, ds0, p0, q0, hargs, rfl, rfl, h0, r0⟩ := trodAll_cons hA
  obtain ⟨rfl, rfl, rfl⟩ := trodAll_nil r0
  obtain rfl : args = #[v0] := by cases args; simp_all
  obtain ⟨rfl, rfl⟩ := trodVars_none hV
  obtain ⟨a0, len0, cap0, rfl⟩ := okWide_slice Try.underlying45 (hval 0 45 v0 rfl rfl)
  have k0 := h0
  have lt0 : ∀ x ∈ p0, x.block < W.heap.size := by obtain ⟨m, hm⟩ := k0; exact DataW.trod_lt m _ _ _ hm
  obtain ⟨fu0, ho0⟩ := h0
  obtain ⟨l0, rfl, w0, m0⟩ := Go.Proofs.Ytcjhieknmblbbaa.Tms.open_tms ho0
  clear hA0 hval0
  refine (walk a0 cap0 l0 W w0 m0).mono fun e W' ⟨he, bel⟩ => ?_
  subst he
  exact ⟨_, rfl, _, _, _, [], _, [], hW', trodAll_mk1 (shut_bool Try.underlying4 _), (trodAll_cons_mk (Below.trod laidOut (by kernel_rfl) (of_decide_eq_true (by kernel_rfl)) k0 bel lt0) trodAll_mk0), rfl, bel.frame _, fun h => by cases h⟩

theorem over : Rows.fnExactHeapTakeRow.holds Try.pinned (OpenSpec.ofChange Rows.fnExactHeapTakeSpec) :=
  OpenClaim.holds_of_wide 8 Try.f8 rfl rfl rfl rfl rfl rfl rfl ⟨rfl, rfl, rfl, rfl, rfl⟩ rfl rfl rfl rfl rfl (by kernel_rfl) Try.func8 (by kernel_rfl)
    (of_decide_eq_true (by kernel_rfl)) (by unfold Func.isWrapper; first | (rw [if_pos (by decide +kernel)]; kernel_rfl) | (rw [if_neg (by decide +kernel)]; exact ⟨rfl, rfl⟩))
    (fun os started H enc _ => lifted os started H enc)

end Go.Proofs.Ytcjhieknmblbbaa.FnExactHeapTake
namespace Go.Proofs.Ytcjhieknmblbbaa
theorem fnExactHeapTake_holds : Rows.FnExactHeapTakeSaid := FnExactHeapTake.over
#print axioms fnExactHeapTake_holds
end Go.Proofs.Ytcjhieknmblbbaa
