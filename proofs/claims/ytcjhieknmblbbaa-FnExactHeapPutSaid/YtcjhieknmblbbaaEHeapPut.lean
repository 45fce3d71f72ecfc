/-
  PROVED: at every list of timers and every timer impl.HeapPut answers as spec.HeapPut, leaves it as it was, keeps nothing of it, and its answer lies in memory of its own, so the law laws.FnExactHeapPut returns true, whatever its arguments. No condition.
-/
import Derived.Test.YtcjhieknmblbbaaRows
import Derived.WalkKit
import Derived.ProofKit
import Derived.OpenShut
import Derived.ShutString
import Derived.ChangeOld
import Derived.Below
import Derived.WalkLawsBesides
import Derived.WalkSpells
import Derived.Test.YtcjhieknmblbbaaTmX
import Derived.Test.YtcjhieknmblbbaaHpI
import Derived.Deep.RegionHeld3
namespace Go.Proofs.Ytcjhieknmblbbaa.FnExactHeapPut
open Go.ChangeShapes Go.WideShapes Go.ChangeAt Go.RowKit
open Go.ChangeMaps (open_string shut_string)
set_option linter.unusedVariables false

open Go.Proofs.Ytcjhieknmblbbaa.Hp Go.Proofs.Ytcjhieknmblbbaa.Tms Go.Proofs.Ytcjhieknmblbbaa.TmO Go.Proofs.Ytcjhieknmblbbaa.TmR Go.Proofs.Ytcjhieknmblbbaa.TmX Go.Proofs.Ytcjhieknmblbbaa.HpS Go.Proofs.Ytcjhieknmblbbaa.HpD Go.Proofs.Ytcjhieknmblbbaa.HpT Go.Proofs.Ytcjhieknmblbbaa.HpO Go.Proofs.Ytcjhieknmblbbaa.HpI Go.Proofs.Ytcjhieknmblbbaa.Over Go.Proofs.Ytcjhieknmblbbaa.Blk
open Go.Proofs.Ytcjhieknmblbbaa.Mark (Apart)
set_option linter.unusedVariables false
set_option maxRecDepth 100000 in
set_option maxHeartbeats 4000000 in
theorem walk0 (a0 : Option Addr) (cap0 : Nat) (l0 : List Tm) (x1 : Tm) (w : World) (r0 : RdT w a0 l0) (m0 : l0.length ≤ maxLen) :
    Calls Try.prog 7 #[.slice a0 l0.length cap0, .agg #[.int .i64 x1.1, .int .i64 x1.2]] w fun e w' => e = .returned (.bool true) ∧ Below w.heap.size w w' := by

  have R0 : Hid (RdT w a0 l0) := r0
  have K0 : Hid (l0.length ≤ maxLen) := m0
  clear r0
  go_enter Try.func7, Try.ntmps7
  go_upto_region 1 with fail
  generalize hz : w.alloc (.cells #[.int .i64 x1.1, .int .i64 x1.2] 42) = w1
  have hbz : Below w.heap.size w w1 := by rw [← hz]; exact Go.Joins.below_alloc1 w _
  have P_1 : Hid (Blk w1 w.heap.size #[.int .i64 x1.1, .int .i64 x1.2] 42) := by rw [← hz]; exact Blk.new _ _ _
  have UP : Hid (w.heap.size < w1.heap.size) := P_1.out.lt
  clear hz
  have B1 : Hid (Below w.heap.size w w1) := hbz
  have Z1 : Hid (w.heap.size ≤ w1.heap.size) := hbz.size
  clear hbz
  have cP0 : w1.cell? ⟨w.heap.size, 0, none⟩ = some (.int .i64 x1.1) := P_1.out.cell 0
  have cP1 : w1.cell? ⟨w.heap.size, 1, none⟩ = some (.int .i64 x1.2) := P_1.out.cell 1
  go_wp2_with fail
  refine (sz_any a0 cap0 l0 1048576 _ K0.out (by decide) (by decide)).mono ?_
  rintro e w2 ⟨⟨nn, rfl, h1, h2⟩, hb⟩
  by_cases hneg : nn < 0
  · go_wp2
    go_ret
    exact ⟨rfl, grow_on B1.out hb⟩
  have HL : Hid (l0.length ≤ 1048576) := by have := h2 (by omega); unfold Hid; omega
  clear h1 h2
  have B2 : Hid (Below w.heap.size w w2) := grow_on B1.out hb
  have Z2 : Hid (w1.heap.size ≤ w2.heap.size) := hb.size
  have P_2 : Hid (Blk w2 w.heap.size #[.int .i64 x1.1, .int .i64 x1.2] 42) := P_1.out.grow hb
  clear hb cP0 cP1 P_1
  have PL : Hid ((putT l0 x1).length ≤ l0.length + 1) := by rw [put_len]; unfold Hid; omega
  have HS : Hid (∀ w', Below w2.heap.size w2 w' → Below w2.heap.size w2 w' ∧ w'.cell? ⟨w.heap.size, 0, none⟩ = some (.int .i64 x1.1) ∧ w'.cell? ⟨w.heap.size, 1, none⟩ = some (.int .i64 x1.2)) := fun w' h => ⟨h, (P_2.out.grow h).cell 0, (P_2.out.grow h).cell 1⟩
  go_upto_region 5 with fail
  refine wp_region_held_drew (S := fun w' => Below w2.heap.size w2 w' ∧ w'.cell? ⟨w.heap.size, 0, none⟩ = some (.int .i64 x1.1) ∧ w'.cell? ⟨w.heap.size, 1, none⟩ = some (.int .i64 x1.2)) (by kernel_rfl) (HS.out _ (Below.refl _ _).drew) (fun hHeld => ?_)
  refine wpAnyH_take (i := 0) (oi := { dst := some 18, op := Op.move (Operand.tmp 0), type := 45, pos := "exact.go:3872", after := #[], guard := none }) (v := ?vp0) rfl (by kernel_rfl) (by kernel_rfl) (by kernel_rfl) (fun _ _ _ h => h) (Or.inl ⟨by rfl, ?hyp0⟩) hHeld ?_
  case hyp0 => (intro w hSw; (try dsimp only at hSw); go_simp <;> with_reducible rfl)
  try simp only [Act.put, List.setIfInBounds_toArray, List.set_cons_zero, List.set_cons_succ]
  refine wpAnyH_take (i := 2) (oi := { dst := some 20, op := Op.load 42 (Operand.tmp 3), type := 42, pos := "exact.go:3872", after := #[], guard := none }) (v := ?vp2) rfl (by kernel_rfl) (by kernel_rfl) (by kernel_rfl) (fun _ _ _ h => h) (Or.inl ⟨by rfl, ?hyp2⟩) hHeld ?_
  case hyp2 => (intro w hSw; (try dsimp only at hSw); go_simp <;> with_reducible rfl)
  try simp only [Act.put, List.setIfInBounds_toArray, List.set_cons_zero, List.set_cons_succ]
  refine wpAnyH_ready (rs := [1]) (by kernel_rfl) (by simp) ?_
  refine AllReadyH.cons (o := { dst := some 19, op := Op.call { callee := Callee.value (Operand.func 32), args := #[Operand.tmp 18], argTypes := #[45] }, type := 24, pos := "exact.go:3872", after := #[{ on := 0, ground := Ground.data }], guard := none }) rfl (fun K hK => ?_) AllReadyH.nil
  go_simp
  refine (copyT_any a0 cap0 l0 _ (R0.out.below (grow_on B2.out (Below.refl _ _).drew)) HL.out).mono ?_
  rintro r wvp0 ⟨⟨rfl, ho⟩, hy⟩
  have HOp : Hid (OT _ wvp0 _ _ l0) := ho
  clear ho
  have hzp0 : Hid (Below w2.heap.size w2 wvp0) := grow_on (Below.refl _ _).drew hy
  clear hHeld hy
  refine hK.out _ _ (HS.out _ hzp0.out) (fun hHeld => ?_)
  clear hK K
  try simp only [Act.put, List.setIfInBounds_toArray, List.set_cons_zero, List.set_cons_succ]
  refine wpAnyH_ready (rs := [3]) (by kernel_rfl) (by simp) ?_
  refine AllReadyH.cons (o := { dst := some 21, op := Op.call { callee := Callee.value (Operand.func 30), args := #[Operand.tmp 20], argTypes := #[42] }, type := 26, pos := "exact.go:3872", after := #[{ on := 2, ground := Ground.data }, { on := 1, ground := Ground.chain }], guard := none }) rfl (fun K hK => ?_) AllReadyH.nil
  go_simp
  refine (toTm_any x1 _).mono ?_
  rintro r wvp1 ⟨rfl, hy⟩
  replace HOp : Hid (OT _ wvp1 _ _ l0) := HOp.out.grow hy
  have hzp1 : Hid (Below w2.heap.size w2 wvp1) := grow_on hzp0.out hy
  clear hHeld hy
  refine hK.out _ _ (HS.out _ hzp1.out) (fun hHeld => ?_)
  clear hK K
  try simp only [Act.put, List.setIfInBounds_toArray, List.set_cons_zero, List.set_cons_succ]
  refine wpAnyH_ready (rs := [4]) (by kernel_rfl) (by simp) ?_
  refine AllReadyH.cons (o := { dst := some 22, op := Op.call { callee := Callee.value (Operand.func 25), args := #[Operand.tmp 19, Operand.tmp 21], argTypes := #[24, 26] }, type := 24, pos := "exact.go:3872", after := #[{ on := 1, ground := Ground.data }, { on := 3, ground := Ground.data }, { on := 3, ground := Ground.chain }], guard := none }) rfl (fun K hK => ?_) AllReadyH.nil
  go_simp
  refine (specPut_any _ 0 _ l0 x1 _ HOp.out.rd (by have := HL.out; omega)).mono ?_
  rintro r wvp2 ⟨⟨WM, Wc, rfl, ho⟩, hy⟩
  have HW : Hid (OT w2.heap.size wvp2 WM Wc (putT l0 x1)) := ho.down (Below.size (grow_on hzp1.out (Below.refl _ _)))
  clear ho HOp
  have hzp2 : Hid (Below w2.heap.size w2 wvp2) := grow_on hzp1.out hy
  clear hHeld hy
  refine hK.out _ _ (HS.out _ hzp2.out) (fun hHeld => ?_)
  clear hK K
  try simp only [Act.put, List.setIfInBounds_toArray, List.set_cons_zero, List.set_cons_succ]
  refine wpAnyH_take (i := 5) (oi := { dst := some 6, op := Op.assign (Operand.tmp 22), type := 24, pos := "exact.go:3872", after := #[{ on := 4, ground := Ground.data }, { on := 4, ground := Ground.chain }, { on := 0, ground := Ground.phase }, { on := 1, ground := Ground.phase }, { on := 2, ground := Ground.phase }, { on := 3, ground := Ground.phase }, { on := 4, ground := Ground.phase }], guard := none }) (v := ?vp5) rfl (by kernel_rfl) (by kernel_rfl) (by kernel_rfl) (fun _ _ _ h => h) (Or.inl ⟨by rfl, ?hyp5⟩) hHeld ?_
  case hyp5 => (intro w hSw; (try dsimp only at hSw); go_simp <;> with_reducible rfl)
  try simp only [Act.put, List.setIfInBounds_toArray, List.set_cons_zero, List.set_cons_succ]
  refine wpAnyH_done (by kernel_rfl) ?_ _
  clear hHeld HS
  obtain ⟨w3, hwx⟩ : ∃ x, wvp2 = x := ⟨_, rfl⟩
  subst hwx
  have hb := hzp2.out
  have B3 : Hid (Below w.heap.size w wvp2) := grow_on B2.out hb
  have Z3 : Hid (w2.heap.size ≤ wvp2.heap.size) := hb.size
  have P_3 : Hid (Blk wvp2 w.heap.size #[.int .i64 x1.1, .int .i64 x1.2] 42) := P_2.out.grow hb
  clear hb hzp0 hzp1 hzp2 P_2
  have W_3 : Hid (OT w2.heap.size wvp2 WM Wc (putT l0 x1)) := HW.out
  have UW : Hid (w2.heap.size ≤ WM ∧ WM < wvp2.heap.size) := ⟨W_3.out.lo, W_3.out.lt⟩
  clear HW
  obtain ⟨w3, hwx⟩ : ∃ x, x = wvp2 := ⟨_, rfl⟩
  subst hwx
  have cP0 : w3.cell? ⟨w.heap.size, 0, none⟩ = some (.int .i64 x1.1) := P_3.out.cell 0
  have cP1 : w3.cell? ⟨w.heap.size, 1, none⟩ = some (.int .i64 x1.2) := P_3.out.cell 1
  go_wp2_with fail
  refine (copyT_any a0 cap0 l0 _ (R0.out.below B3.out) HL.out).mono ?_
  rintro e w4 ⟨⟨rfl, ho⟩, hb⟩
  have NX : Hid (OT w3.heap.size w4 w3.heap.size l0.length l0) := ho
  have B4 : Hid (Below w.heap.size w w4) := grow_on B3.out hb
  have Z4 : Hid (w3.heap.size ≤ w4.heap.size) := hb.size
  have P_4 : Hid (Blk w4 w.heap.size #[.int .i64 x1.1, .int .i64 x1.2] 42) := P_3.out.grow hb
  have W_4 : Hid (OT w2.heap.size w4 WM Wc (putT l0 x1)) := W_3.out.grow hb
  clear hb cP0 cP1 P_3 W_3
  have X_4 : Hid (OT w3.heap.size w4 w3.heap.size l0.length l0) := NX.out
  have UX : Hid (w3.heap.size ≤ w3.heap.size ∧ w3.heap.size < w4.heap.size) := ⟨NX.out.lo, NX.out.lt⟩
  clear NX
  have cP0 : w4.cell? ⟨w.heap.size, 0, none⟩ = some (.int .i64 x1.1) := P_4.out.cell 0
  have cP1 : w4.cell? ⟨w.heap.size, 1, none⟩ = some (.int .i64 x1.2) := P_4.out.cell 1
  go_wp2_with fail
  refine (toTm_any x1 _).mono ?_
  rintro e w5 ⟨rfl, hb⟩
  have B5 : Hid (Below w.heap.size w w5) := grow_on B4.out hb
  have Z5 : Hid (w4.heap.size ≤ w5.heap.size) := hb.size
  have P_5 : Hid (Blk w5 w.heap.size #[.int .i64 x1.1, .int .i64 x1.2] 42) := P_4.out.grow hb
  have W_5 : Hid (OT w2.heap.size w5 WM Wc (putT l0 x1)) := W_4.out.grow hb
  have X_5 : Hid (OT w3.heap.size w5 w3.heap.size l0.length l0) := X_4.out.grow hb
  clear hb cP0 cP1 P_4 W_4 X_4
  have cP0 : w5.cell? ⟨w.heap.size, 0, none⟩ = some (.int .i64 x1.1) := P_5.out.cell 0
  have cP1 : w5.cell? ⟨w.heap.size, 1, none⟩ = some (.int .i64 x1.2) := P_5.out.cell 1
  go_wp2_with fail
  refine (implPut_any _ 0 _ l0 x1 _ X_5.out.rd (by have := HL.out; omega)).mono ?_
  rintro e w6 ⟨⟨GM, Gc, rfl, ho⟩, hb⟩
  have NG : Hid (OT w5.heap.size w6 GM Gc (putT l0 x1)) := ho
  have B6 : Hid (Below w.heap.size w w6) := grow_on B5.out hb
  have Z6 : Hid (w5.heap.size ≤ w6.heap.size) := hb.size
  have P_6 : Hid (Blk w6 w.heap.size #[.int .i64 x1.1, .int .i64 x1.2] 42) := P_5.out.grow hb
  have W_6 : Hid (OT w2.heap.size w6 WM Wc (putT l0 x1)) := W_5.out.grow hb
  have X_6 : Hid (OT w3.heap.size w6 w3.heap.size l0.length l0) := X_5.out.grow hb
  clear hb cP0 cP1 P_5 W_5 X_5
  have G_6 : Hid (OT w5.heap.size w6 GM Gc (putT l0 x1)) := NG.out
  have UG : Hid (w5.heap.size ≤ GM ∧ GM < w6.heap.size) := ⟨NG.out.lo, NG.out.lt⟩
  clear NG
  have cP0 : w6.cell? ⟨w.heap.size, 0, none⟩ = some (.int .i64 x1.1) := P_6.out.cell 0
  have cP1 : w6.cell? ⟨w.heap.size, 1, none⟩ = some (.int .i64 x1.2) := P_6.out.cell 1
  go_wp2_with fail
  refine (eqT_any _ _ _ _ (putT l0 x1) _ G_6.out.rd W_6.out.rd (by have := HL.out; have := PL.out; unfold maxLen at *; omega)).mono ?_
  rintro e w7 ⟨rfl, hb⟩
  have B7 : Hid (Below w.heap.size w w7) := grow_on B6.out hb
  have Z7 : Hid (w6.heap.size ≤ w7.heap.size) := hb.size
  have P_7 : Hid (Blk w7 w.heap.size #[.int .i64 x1.1, .int .i64 x1.2] 42) := P_6.out.grow hb
  have W_7 : Hid (OT w2.heap.size w7 WM Wc (putT l0 x1)) := W_6.out.grow hb
  have X_7 : Hid (OT w3.heap.size w7 w3.heap.size l0.length l0) := X_6.out.grow hb
  have G_7 : Hid (OT w5.heap.size w7 GM Gc (putT l0 x1)) := G_6.out.grow hb
  clear hb cP0 cP1 P_6 W_6 X_6 G_6
  have cP0 : w7.cell? ⟨w.heap.size, 0, none⟩ = some (.int .i64 x1.1) := P_7.out.cell 0
  have cP1 : w7.cell? ⟨w.heap.size, 1, none⟩ = some (.int .i64 x1.2) := P_7.out.cell 1
  go_wp2_with fail
  refine (copyT_any a0 cap0 l0 _ (R0.out.below B7.out) HL.out).mono ?_
  rintro e w8 ⟨⟨rfl, ho⟩, hb⟩
  have NE : Hid (OT w7.heap.size w8 w7.heap.size l0.length l0) := ho
  have B8 : Hid (Below w.heap.size w w8) := grow_on B7.out hb
  have Z8 : Hid (w7.heap.size ≤ w8.heap.size) := hb.size
  have P_8 : Hid (Blk w8 w.heap.size #[.int .i64 x1.1, .int .i64 x1.2] 42) := P_7.out.grow hb
  have W_8 : Hid (OT w2.heap.size w8 WM Wc (putT l0 x1)) := W_7.out.grow hb
  have X_8 : Hid (OT w3.heap.size w8 w3.heap.size l0.length l0) := X_7.out.grow hb
  have G_8 : Hid (OT w5.heap.size w8 GM Gc (putT l0 x1)) := G_7.out.grow hb
  clear hb cP0 cP1 P_7 W_7 X_7 G_7
  have E_8 : Hid (OT w7.heap.size w8 w7.heap.size l0.length l0) := NE.out
  have UE : Hid (w7.heap.size ≤ w7.heap.size ∧ w7.heap.size < w8.heap.size) := ⟨NE.out.lo, NE.out.lt⟩
  clear NE
  have cP0 : w8.cell? ⟨w.heap.size, 0, none⟩ = some (.int .i64 x1.1) := P_8.out.cell 0
  have cP1 : w8.cell? ⟨w.heap.size, 1, none⟩ = some (.int .i64 x1.2) := P_8.out.cell 1
  go_wp2_with fail
  refine (eqT_any _ _ _ _ l0 _ X_8.out.rd E_8.out.rd (by have := HL.out; have := K0.out; unfold maxLen at *; omega)).mono ?_
  rintro e w9 ⟨rfl, hb⟩
  have B9 : Hid (Below w.heap.size w w9) := grow_on B8.out hb
  have Z9 : Hid (w8.heap.size ≤ w9.heap.size) := hb.size
  have P_9 : Hid (Blk w9 w.heap.size #[.int .i64 x1.1, .int .i64 x1.2] 42) := P_8.out.grow hb
  have W_9 : Hid (OT w2.heap.size w9 WM Wc (putT l0 x1)) := W_8.out.grow hb
  have X_9 : Hid (OT w3.heap.size w9 w3.heap.size l0.length l0) := X_8.out.grow hb
  have G_9 : Hid (OT w5.heap.size w9 GM Gc (putT l0 x1)) := G_8.out.grow hb
  have E_9 : Hid (OT w7.heap.size w9 w7.heap.size l0.length l0) := E_8.out.grow hb
  clear hb cP0 cP1 P_8 W_8 X_8 G_8 E_8
  clear E_9
  have cP0 : w9.cell? ⟨w.heap.size, 0, none⟩ = some (.int .i64 x1.1) := P_9.out.cell 0
  have cP1 : w9.cell? ⟨w.heap.size, 1, none⟩ = some (.int .i64 x1.2) := P_9.out.cell 1
  go_wp2_with fail
  refine (markT_any _ _ _ _ 1 l0 _ X_9.out (by have := HL.out; have := PL.out; omega) (by decide) (by decide)).mono ?_
  rintro e w10 ⟨rfl, hm, ha⟩
  have B10 : Hid (Below w.heap.size w w10) := B9.out.trans (ha.low (by have := UP.out; have := Z1.out; have := Z2.out; have := Z3.out; have := UW.out; have := Z4.out; have := UX.out; have := Z5.out; have := Z6.out; have := UG.out; have := Z7.out; have := Z8.out; have := UE.out; have := Z9.out; omega) B9.out.size)
  have Z10 : Hid (w9.heap.size ≤ w10.heap.size) := ha.size
  have P_10 : Hid (Blk w10 w.heap.size #[.int .i64 x1.1, .int .i64 x1.2] 42) := ha.blk P_9.out (by have := UP.out; have := Z1.out; have := Z2.out; have := Z3.out; have := UW.out; have := Z4.out; have := UX.out; have := Z5.out; have := Z6.out; have := UG.out; have := Z7.out; have := Z8.out; have := UE.out; have := Z9.out; have := Z10.out; omega)
  have W_10 : Hid (OT w2.heap.size w10 WM Wc (putT l0 x1)) := ot_apart W_9.out ha (by have := UP.out; have := Z1.out; have := Z2.out; have := Z3.out; have := UW.out; have := Z4.out; have := UX.out; have := Z5.out; have := Z6.out; have := UG.out; have := Z7.out; have := Z8.out; have := UE.out; have := Z9.out; have := Z10.out; omega)
  have G_10 : Hid (OT w5.heap.size w10 GM Gc (putT l0 x1)) := ot_apart G_9.out ha (by have := UP.out; have := Z1.out; have := Z2.out; have := Z3.out; have := UW.out; have := Z4.out; have := UX.out; have := Z5.out; have := Z6.out; have := UG.out; have := Z7.out; have := Z8.out; have := UE.out; have := Z9.out; have := Z10.out; omega)
  clear ha cP0 cP1 P_9 W_9 X_9 G_9
  have X_10 : Hid (MT w10 w3.heap.size 1 l0.length) := hm
  clear hm
  clear X_10
  have hq : ¬ ((1 + 2 * l0.length : Nat) : Int) < 0 := by omega
  have cP0 : w10.cell? ⟨w.heap.size, 0, none⟩ = some (.int .i64 x1.1) := P_10.out.cell 0
  have cP1 : w10.cell? ⟨w.heap.size, 1, none⟩ = some (.int .i64 x1.2) := P_10.out.cell 1
  go_wp2_with fail
  refine (eqT_any _ _ _ _ (putT l0 x1) _ G_10.out.rd W_10.out.rd (by have := HL.out; have := PL.out; unfold maxLen at *; omega)).mono ?_
  rintro e w11 ⟨rfl, hb⟩
  have B11 : Hid (Below w.heap.size w w11) := grow_on B10.out hb
  have Z11 : Hid (w10.heap.size ≤ w11.heap.size) := hb.size
  have P_11 : Hid (Blk w11 w.heap.size #[.int .i64 x1.1, .int .i64 x1.2] 42) := P_10.out.grow hb
  have W_11 : Hid (OT w2.heap.size w11 WM Wc (putT l0 x1)) := W_10.out.grow hb
  have G_11 : Hid (OT w5.heap.size w11 GM Gc (putT l0 x1)) := G_10.out.grow hb
  clear hb cP0 cP1 P_10 W_10 G_10
  clear hq
  have cP0 : w11.cell? ⟨w.heap.size, 0, none⟩ = some (.int .i64 x1.1) := P_11.out.cell 0
  have cP1 : w11.cell? ⟨w.heap.size, 1, none⟩ = some (.int .i64 x1.2) := P_11.out.cell 1
  go_wp2_with fail
  refine (markT_any _ _ _ _ 1 (putT l0 x1) _ G_11.out (by have := HL.out; have := PL.out; omega) (by decide) (by decide)).mono ?_
  rintro e w12 ⟨rfl, hm, ha⟩
  have B12 : Hid (Below w.heap.size w w12) := B11.out.trans (ha.low (by have := UP.out; have := Z1.out; have := Z2.out; have := Z3.out; have := UW.out; have := Z4.out; have := UX.out; have := Z5.out; have := Z6.out; have := UG.out; have := Z7.out; have := Z8.out; have := UE.out; have := Z9.out; have := Z10.out; have := Z11.out; omega) B11.out.size)
  have Z12 : Hid (w11.heap.size ≤ w12.heap.size) := ha.size
  have P_12 : Hid (Blk w12 w.heap.size #[.int .i64 x1.1, .int .i64 x1.2] 42) := ha.blk P_11.out (by have := UP.out; have := Z1.out; have := Z2.out; have := Z3.out; have := UW.out; have := Z4.out; have := UX.out; have := Z5.out; have := Z6.out; have := UG.out; have := Z7.out; have := Z8.out; have := UE.out; have := Z9.out; have := Z10.out; have := Z11.out; have := Z12.out; omega)
  have W_12 : Hid (OT w2.heap.size w12 WM Wc (putT l0 x1)) := ot_apart W_11.out ha (by have := UP.out; have := Z1.out; have := Z2.out; have := Z3.out; have := UW.out; have := Z4.out; have := UX.out; have := Z5.out; have := Z6.out; have := UG.out; have := Z7.out; have := Z8.out; have := UE.out; have := Z9.out; have := Z10.out; have := Z11.out; have := Z12.out; omega)
  clear ha cP0 cP1 P_11 W_11 G_11
  have G_12 : Hid (MT w12 GM 1 (putT l0 x1).length) := hm
  clear hm
  have hq : ¬ ((1 + 2 * (putT l0 x1).length : Nat) : Int) < 0 := by omega
  have cP0 : w12.cell? ⟨w.heap.size, 0, none⟩ = some (.int .i64 x1.1) := P_12.out.cell 0
  have cP1 : w12.cell? ⟨w.heap.size, 1, none⟩ = some (.int .i64 x1.2) := P_12.out.cell 1
  go_wp2_with fail
  refine (heldT_any GM (putT l0 x1).length _ 1 _ G_12.out (by have := HL.out; have := PL.out; omega) (by decide) (by decide)).mono ?_
  rintro e w13 ⟨rfl, hb⟩
  have B13 : Hid (Below w.heap.size w w13) := grow_on B12.out hb
  have Z13 : Hid (w12.heap.size ≤ w13.heap.size) := hb.size
  have P_13 : Hid (Blk w13 w.heap.size #[.int .i64 x1.1, .int .i64 x1.2] 42) := P_12.out.grow hb
  have W_13 : Hid (OT w2.heap.size w13 WM Wc (putT l0 x1)) := W_12.out.grow hb
  have G_13 : Hid (MT w13 GM 1 (putT l0 x1).length) := G_12.out.grow hb
  clear hb cP0 cP1 P_12 W_12 G_12
  clear hq
  have HS : Hid (∀ w', Below w13.heap.size w13 w' → Below w13.heap.size w13 w' ∧ w'.cell? ⟨w.heap.size, 0, none⟩ = some (.int .i64 x1.1) ∧ w'.cell? ⟨w.heap.size, 1, none⟩ = some (.int .i64 x1.2)) := fun w' h => ⟨h, (P_13.out.grow h).cell 0, (P_13.out.grow h).cell 1⟩
  go_upto_region 24 with fail
  refine wp_region_held_drew (S := fun w' => Below w13.heap.size w13 w' ∧ w'.cell? ⟨w.heap.size, 0, none⟩ = some (.int .i64 x1.1) ∧ w'.cell? ⟨w.heap.size, 1, none⟩ = some (.int .i64 x1.2)) (by kernel_rfl) (HS.out _ (Below.refl _ _).drew) (fun hHeld => ?_)
  refine wpAnyH_take (i := 0) (oi := { dst := some 60, op := Op.move (Operand.tmp 0), type := 45, pos := "exact.go:3896", after := #[], guard := none }) (v := ?vq0) rfl (by kernel_rfl) (by kernel_rfl) (by kernel_rfl) (fun _ _ _ h => h) (Or.inl ⟨by rfl, ?hyq0⟩) hHeld ?_
  case hyq0 => (intro w hSw; (try dsimp only at hSw); go_simp <;> with_reducible rfl)
  try simp only [Act.put, List.setIfInBounds_toArray, List.set_cons_zero, List.set_cons_succ]
  refine wpAnyH_take (i := 2) (oi := { dst := some 62, op := Op.load 42 (Operand.tmp 3), type := 42, pos := "exact.go:3896", after := #[], guard := none }) (v := ?vq2) rfl (by kernel_rfl) (by kernel_rfl) (by kernel_rfl) (fun _ _ _ h => h) (Or.inl ⟨by rfl, ?hyq2⟩) hHeld ?_
  case hyq2 => (intro w hSw; (try dsimp only at hSw); go_simp <;> with_reducible rfl)
  try simp only [Act.put, List.setIfInBounds_toArray, List.set_cons_zero, List.set_cons_succ]
  refine wpAnyH_ready (rs := [1]) (by kernel_rfl) (by simp) ?_
  refine AllReadyH.cons (o := { dst := some 61, op := Op.call { callee := Callee.value (Operand.func 32), args := #[Operand.tmp 60], argTypes := #[45] }, type := 24, pos := "exact.go:3896", after := #[{ on := 0, ground := Ground.data }], guard := none }) rfl (fun K hK => ?_) AllReadyH.nil
  go_simp
  refine (copyT_any a0 cap0 l0 _ (R0.out.below (grow_on B13.out (Below.refl _ _).drew)) HL.out).mono ?_
  rintro r wvq0 ⟨⟨rfl, ho⟩, hy⟩
  have HOq : Hid (OT _ wvq0 _ _ l0) := ho
  clear ho
  have hzq0 : Hid (Below w13.heap.size w13 wvq0) := grow_on (Below.refl _ _).drew hy
  clear hHeld hy
  refine hK.out _ _ (HS.out _ hzq0.out) (fun hHeld => ?_)
  clear hK K
  try simp only [Act.put, List.setIfInBounds_toArray, List.set_cons_zero, List.set_cons_succ]
  refine wpAnyH_ready (rs := [3]) (by kernel_rfl) (by simp) ?_
  refine AllReadyH.cons (o := { dst := some 63, op := Op.call { callee := Callee.value (Operand.func 30), args := #[Operand.tmp 62], argTypes := #[42] }, type := 26, pos := "exact.go:3896", after := #[{ on := 2, ground := Ground.data }, { on := 1, ground := Ground.chain }], guard := none }) rfl (fun K hK => ?_) AllReadyH.nil
  go_simp
  refine (toTm_any x1 _).mono ?_
  rintro r wvq1 ⟨rfl, hy⟩
  replace HOq : Hid (OT _ wvq1 _ _ l0) := HOq.out.grow hy
  have hzq1 : Hid (Below w13.heap.size w13 wvq1) := grow_on hzq0.out hy
  clear hHeld hy
  refine hK.out _ _ (HS.out _ hzq1.out) (fun hHeld => ?_)
  clear hK K
  try simp only [Act.put, List.setIfInBounds_toArray, List.set_cons_zero, List.set_cons_succ]
  refine wpAnyH_ready (rs := [4]) (by kernel_rfl) (by simp) ?_
  refine AllReadyH.cons (o := { dst := some 64, op := Op.call { callee := Callee.value (Operand.func 11), args := #[Operand.tmp 61, Operand.tmp 63], argTypes := #[24, 26] }, type := 24, pos := "exact.go:3896", after := #[{ on := 1, ground := Ground.data }, { on := 3, ground := Ground.data }, { on := 3, ground := Ground.chain }], guard := none }) rfl (fun K hK => ?_) AllReadyH.nil
  go_simp
  refine (implPut_any _ 0 _ l0 x1 _ HOq.out.rd (by have := HL.out; omega)).mono ?_
  rintro r wvq2 ⟨⟨HM, Hc, rfl, ho⟩, hy⟩
  have HH : Hid (OT w13.heap.size wvq2 HM Hc (putT l0 x1)) := ho.down (Below.size (grow_on hzq1.out (Below.refl _ _)))
  clear ho HOq
  have hzq2 : Hid (Below w13.heap.size w13 wvq2) := grow_on hzq1.out hy
  clear hHeld hy
  refine hK.out _ _ (HS.out _ hzq2.out) (fun hHeld => ?_)
  clear hK K
  try simp only [Act.put, List.setIfInBounds_toArray, List.set_cons_zero, List.set_cons_succ]
  refine wpAnyH_take (i := 5) (oi := { dst := some 12, op := Op.assign (Operand.tmp 64), type := 24, pos := "exact.go:3896", after := #[{ on := 4, ground := Ground.data }, { on := 4, ground := Ground.chain }, { on := 0, ground := Ground.phase }, { on := 1, ground := Ground.phase }, { on := 2, ground := Ground.phase }, { on := 3, ground := Ground.phase }, { on := 4, ground := Ground.phase }], guard := none }) (v := ?vq5) rfl (by kernel_rfl) (by kernel_rfl) (by kernel_rfl) (fun _ _ _ h => h) (Or.inl ⟨by rfl, ?hyq5⟩) hHeld ?_
  case hyq5 => (intro w hSw; (try dsimp only at hSw); go_simp <;> with_reducible rfl)
  try simp only [Act.put, List.setIfInBounds_toArray, List.set_cons_zero, List.set_cons_succ]
  refine wpAnyH_done (by kernel_rfl) ?_ _
  clear hHeld HS
  obtain ⟨w14, hwx⟩ : ∃ x, wvq2 = x := ⟨_, rfl⟩
  subst hwx
  have hb := hzq2.out
  have B14 : Hid (Below w.heap.size w wvq2) := grow_on B13.out hb
  have Z14 : Hid (w13.heap.size ≤ wvq2.heap.size) := hb.size
  have P_14 : Hid (Blk wvq2 w.heap.size #[.int .i64 x1.1, .int .i64 x1.2] 42) := P_13.out.grow hb
  have W_14 : Hid (OT w2.heap.size wvq2 WM Wc (putT l0 x1)) := W_13.out.grow hb
  have G_14 : Hid (MT wvq2 GM 1 (putT l0 x1).length) := G_13.out.grow hb
  clear hb hzq0 hzq1 hzq2 P_13 W_13 G_13
  have H_14 : Hid (OT w13.heap.size wvq2 HM Hc (putT l0 x1)) := HH.out
  have UH : Hid (w13.heap.size ≤ HM ∧ HM < wvq2.heap.size) := ⟨H_14.out.lo, H_14.out.lt⟩
  clear HH
  obtain ⟨w14, hwx⟩ : ∃ x, x = wvq2 := ⟨_, rfl⟩
  subst hwx
  have cP0 : w14.cell? ⟨w.heap.size, 0, none⟩ = some (.int .i64 x1.1) := P_14.out.cell 0
  have cP1 : w14.cell? ⟨w.heap.size, 1, none⟩ = some (.int .i64 x1.2) := P_14.out.cell 1
  go_wp2_with fail
  refine (eqT_any _ _ _ _ (putT l0 x1) _ H_14.out.rd W_14.out.rd (by have := HL.out; have := PL.out; unfold maxLen at *; omega)).mono ?_
  rintro e w15 ⟨rfl, hb⟩
  have B15 : Hid (Below w.heap.size w w15) := grow_on B14.out hb
  have Z15 : Hid (w14.heap.size ≤ w15.heap.size) := hb.size
  have P_15 : Hid (Blk w15 w.heap.size #[.int .i64 x1.1, .int .i64 x1.2] 42) := P_14.out.grow hb
  have W_15 : Hid (OT w2.heap.size w15 WM Wc (putT l0 x1)) := W_14.out.grow hb
  have G_15 : Hid (MT w15 GM 1 (putT l0 x1).length) := G_14.out.grow hb
  have H_15 : Hid (OT w13.heap.size w15 HM Hc (putT l0 x1)) := H_14.out.grow hb
  clear hb cP0 cP1 P_14 W_14 G_14 H_14
  have hq : ¬ ((1 + 2 * (putT l0 x1).length : Nat) : Int) < 0 := by omega
  have cP0 : w15.cell? ⟨w.heap.size, 0, none⟩ = some (.int .i64 x1.1) := P_15.out.cell 0
  have cP1 : w15.cell? ⟨w.heap.size, 1, none⟩ = some (.int .i64 x1.2) := P_15.out.cell 1
  go_wp2_with fail
  refine (heldT_any GM (putT l0 x1).length _ 1 _ G_15.out (by have := HL.out; have := PL.out; omega) (by decide) (by decide)).mono ?_
  rintro e w16 ⟨rfl, hb⟩
  have B16 : Hid (Below w.heap.size w w16) := grow_on B15.out hb
  have Z16 : Hid (w15.heap.size ≤ w16.heap.size) := hb.size
  have P_16 : Hid (Blk w16 w.heap.size #[.int .i64 x1.1, .int .i64 x1.2] 42) := P_15.out.grow hb
  have W_16 : Hid (OT w2.heap.size w16 WM Wc (putT l0 x1)) := W_15.out.grow hb
  have G_16 : Hid (MT w16 GM 1 (putT l0 x1).length) := G_15.out.grow hb
  have H_16 : Hid (OT w13.heap.size w16 HM Hc (putT l0 x1)) := H_15.out.grow hb
  clear hb cP0 cP1 P_15 W_15 G_15 H_15
  have cP0 : w16.cell? ⟨w.heap.size, 0, none⟩ = some (.int .i64 x1.1) := P_16.out.cell 0
  have cP1 : w16.cell? ⟨w.heap.size, 1, none⟩ = some (.int .i64 x1.2) := P_16.out.cell 1
  go_wp2
  go_ret
  exact ⟨rfl, B16.out⟩
theorem walk (a0 : Option Addr) (cap0 : Nat) (l0 : List Tm) (x1 : Tm) (w : World) (r0 : RdT w a0 l0) (m0 : l0.length ≤ maxLen)  :
    Calls Try.prog 7 #[.slice a0 l0.length cap0, .agg #[.int .i64 x1.1, .int .i64 x1.2]] w fun e w' => e = .returned (.bool true) ∧ Below w.heap.size w w' := walk0 a0 cap0 l0 x1 w r0 m0
theorem own : ownKnob Try.prog.godebug = none := by kernel_rfl
theorem laidOut : laidOutB Try.prog = true := by kernel_rfl
set_option maxRecDepth 100000 in
theorem lifted (os : Os) (started : os.Started) (H : Type) (enc : TypeId × Value → H) :
    ReturnsInHanded {} Try.checked os 7 .any (Rows.fnExactHeapPutSpec.pre6 enc Try.prog Try.f7 Rows.fnExactHeapPutRow.domain false) (Rows.fnExactHeapPutSpec.post enc Try.prog Try.f7 false true false false) := by
  refine returnsInHanded_of_change (C := Try.checked) own started (by kernel_rfl) Try.func7
    (ChangeSpec.witness6 (enc := enc) (C := Try.checked) false ⟨#[], #[.slice none 0 0, .agg #[.int .i64 0, .int .i64 0]], []⟩ 8 (by kernel_rfl) (by kernel_rfl) (by kernel_rfl) (by kernel_rfl)) ?_
  intro W base args ds gs before hval0 hW hcnd _
  have hval : ∀ (j : Nat) t v, Try.f7.params[j]? = some t → args[j]? = some v → Value.okWide Try.prog W .any base t v := hval0
  have hW' := hW
  obtain ⟨p, q, hA0, hV, rfl, hfz, hnd⟩ := hW
  have hA : DataW.TrodAll enc Try.prog W 0 (fun _ => true) true Try.f7.params.toList args.toList ds p := hA0
  rw [Try.params7] at hA hval
  obtain ⟨v0, vs0, d0, ds0, p0, q0, hargs, rfl, rfl, h0, r0⟩ := trodAll_cons hA
  obtain ⟨v1, vs1, d1, ds1, p1, q1, rfl, rfl, rfl, h1, r1⟩ := trodAll_cons r0
  obtain ⟨rfl, rfl, rfl⟩ := trodAll_nil r1
  obtain rfl : args = #[v0, v1] := by cases args; simp_all
  obtain ⟨rfl, rfl⟩ := trodVars_none hV
  obtain ⟨a0, len0, cap0, rfl⟩ := okWide_slice Try.underlying45 (hval 0 45 v0 rfl rfl)
  have k0 := h0
  have lt0 : ∀ x ∈ p0, x.block < W.heap.size := by obtain ⟨m, hm⟩ := k0; exact DataW.trod_lt m _ _ _ hm
  obtain ⟨fu0, ho0⟩ := h0
  obtain ⟨l0, rfl, w0, m0⟩ := Go.Proofs.Ytcjhieknmblbbaa.Tms.open_tms ho0
  have k1 := h1
  have lt1 : ∀ x ∈ p1, x.block < W.heap.size := by obtain ⟨m, hm⟩ := k1; exact DataW.trod_lt m _ _ _ hm
  obtain ⟨x1, rfl⟩ := Go.Proofs.Ytcjhieknmblbbaa.Tms.open_tm (hval 1 42 v1 rfl rfl) h1
  clear hA0 hval0
  refine (walk a0 cap0 l0 x1 W w0 m0 ).mono fun e W' ⟨he, bel⟩ => ?_
  subst he
  exact ⟨_, rfl, _, _, _, [], _, [], hW', trodAll_mk1 (shut_bool Try.underlying4 _), (trodAll_cons_mk (Below.trod laidOut (by kernel_rfl) (of_decide_eq_true (by kernel_rfl)) k0 bel lt0) (trodAll_cons_mk (Below.trod laidOut (by kernel_rfl) (of_decide_eq_true (by kernel_rfl)) k1 bel lt1) trodAll_mk0)), rfl, bel.frame _, fun h => by cases h⟩

theorem over : Rows.fnExactHeapPutRow.holds Try.pinned (OpenSpec.ofChange Rows.fnExactHeapPutSpec) :=
  OpenClaim.holds_of_wide 7 Try.f7 rfl rfl rfl rfl rfl rfl rfl ⟨rfl, rfl, rfl, rfl, rfl⟩ rfl rfl rfl rfl rfl (by kernel_rfl) Try.func7 (by kernel_rfl)
    (of_decide_eq_true (by kernel_rfl)) (by unfold Func.isWrapper; first | (rw [if_pos (by decide +kernel)]; kernel_rfl) | (rw [if_neg (by decide +kernel)]; exact ⟨rfl, rfl⟩))
    (fun os started H enc _ => lifted os started H enc)

end Go.Proofs.Ytcjhieknmblbbaa.FnExactHeapPut
namespace Go.Proofs.Ytcjhieknmblbbaa
theorem fnExactHeapPut_holds : Rows.FnExactHeapPutSaid := FnExactHeapPut.over
#print axioms fnExactHeapPut_holds
end Go.Proofs.Ytcjhieknmblbbaa
