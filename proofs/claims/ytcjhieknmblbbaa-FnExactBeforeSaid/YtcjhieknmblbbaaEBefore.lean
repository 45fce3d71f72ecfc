/-
  PROVED: at every two timers impl.Before answers as spec.Before, leaves it as it was, keeps nothing of it, and its answer lies in memory of its own, so the law laws.FnExactBefore returns true, whatever its arguments. No condition.
-/
import Derived.Test.YtcjhieknmblbbaaRows
import Derived.WalkKit
import Derived.ProofKit
import Derived.OpenShut
import Derived.ShutString
import Derived.ChangeOld
import Derived.Below
import Derived.WalkLawsBesides
import Derived.WalkSpells
import Derived.Test.YtcjhieknmblbbaaTmX
import Derived.Test.YtcjhieknmblbbaaHpI
import Derived.Deep.RegionHeld3
namespace Go.Proofs.Ytcjhieknmblbbaa.FnExactBefore
open Go.ChangeShapes Go.WideShapes Go.ChangeAt Go.RowKit
open Go.ChangeMaps (open_string shut_string)
set_option linter.unusedVariables false

open Go.Proofs.Ytcjhieknmblbbaa.Hp Go.Proofs.Ytcjhieknmblbbaa.Tms Go.Proofs.Ytcjhieknmblbbaa.TmO Go.Proofs.Ytcjhieknmblbbaa.TmR Go.Proofs.Ytcjhieknmblbbaa.TmX Go.Proofs.Ytcjhieknmblbbaa.HpS Go.Proofs.Ytcjhieknmblbbaa.HpD Go.Proofs.Ytcjhieknmblbbaa.HpT Go.Proofs.Ytcjhieknmblbbaa.HpO Go.Proofs.Ytcjhieknmblbbaa.HpI Go.Proofs.Ytcjhieknmblbbaa.Over Go.Proofs.Ytcjhieknmblbbaa.Blk
open Go.Proofs.Ytcjhieknmblbbaa.Mark (Apart)
set_option linter.unusedVariables false
set_option maxRecDepth 100000 in
set_option maxHeartbeats 4000000 in
theorem walk0 (x0 : Tm) (x1 : Tm) (w : World)  :
    Calls Try.prog 5 #[.agg #[.int .i64 x0.1, .int .i64 x0.2], .agg #[.int .i64 x1.1, .int .i64 x1.2]] w fun e w' => e = .returned (.bool true) ∧ Below w.heap.size w w' := by

  go_enter Try.func5, Try.ntmps5
  go_upto_region 1 with fail
  generalize hz : (w.alloc (.cells #[.int .i64 x0.1, .int .i64 x0.2] 42)).alloc (.cells #[.int .i64 x1.1, .int .i64 x1.2] 42) = w1
  have B1 : Hid (Below w.heap.size w w1) := by rw [← hz]; exact Go.Joins.below_alloc2 w _ _
  have P_1 : Hid (Blk w1 w.heap.size #[.int .i64 x0.1, .int .i64 x0.2] 42) := by rw [← hz]; exact (Blk.new _ _ _).alloc _
  have Q_1 : Hid (Blk w1 (w.heap.size + 1) #[.int .i64 x1.1, .int .i64 x1.2] 42) := by rw [← hz]; exact Blk.new_at (by simp)
  clear hz
  have Z1 : Hid (w.heap.size ≤ w1.heap.size) := B1.out.size
  obtain ⟨b, hbf⟩ : ∃ b, befB x0 x1 = b := ⟨_, rfl⟩
  have Hspec : Hid (∀ w, Calls Try.prog 29 #[.agg #[.int .i64 x0.1, .int .i64 x0.2], .agg #[.int .i64 x1.1, .int .i64 x1.2]] w fun e w' => e = .returned (.bool b) ∧ Below w.heap.size w w') := fun w => by rw [← hbf]; exact specBefore_any x0 x1 w
  have Himpl : Hid (∀ w, Calls Try.prog 16 #[.agg #[.int .i64 x0.1, .int .i64 x0.2], .agg #[.int .i64 x1.1, .int .i64 x1.2]] w fun e w' => e = .returned (.bool b) ∧ Below w.heap.size w w') := fun w => by rw [← hbf]; exact implBefore_any x0 x1 w
  clear hbf
  have HS : Hid (∀ w', Below w1.heap.size w1 w' → Below w1.heap.size w1 w' ∧ w'.cell? ⟨w.heap.size, 0, none⟩ = some (.int .i64 x0.1) ∧ w'.cell? ⟨w.heap.size, 1, none⟩ = some (.int .i64 x0.2) ∧ w'.cell? ⟨(w.heap.size + 1), 0, none⟩ = some (.int .i64 x1.1) ∧ w'.cell? ⟨(w.heap.size + 1), 1, none⟩ = some (.int .i64 x1.2)) := fun w' h => ⟨h, (P_1.out.grow h).cell 0, (P_1.out.grow h).cell 1, (Q_1.out.grow h).cell 0, (Q_1.out.grow h).cell 1⟩
  go_upto_region 1 with fail
  refine wp_region_held_drew (S := fun w' => Below w1.heap.size w1 w' ∧ w'.cell? ⟨w.heap.size, 0, none⟩ = some (.int .i64 x0.1) ∧ w'.cell? ⟨w.heap.size, 1, none⟩ = some (.int .i64 x0.2) ∧ w'.cell? ⟨(w.heap.size + 1), 0, none⟩ = some (.int .i64 x1.1) ∧ w'.cell? ⟨(w.heap.size + 1), 1, none⟩ = some (.int .i64 x1.2)) (by kernel_rfl) (HS.out _ (Below.refl _ _).drew) (fun hHeld => ?_)
  refine wpAnyH_take (i := 0) (oi := { dst := some 7, op := Op.load 42 (Operand.tmp 2), type := 42, pos := "exact.go:3838", after := #[], guard := none }) (v := ?vp0) rfl (by kernel_rfl) (by kernel_rfl) (by kernel_rfl) (fun _ _ _ h => h) (Or.inl ⟨by rfl, ?hyp0⟩) hHeld ?_
  case hyp0 => (intro w hSw; (try dsimp only at hSw); go_simp <;> with_reducible rfl)
  try simp only [Act.put, List.setIfInBounds_toArray, List.set_cons_zero, List.set_cons_succ]
  refine wpAnyH_take (i := 2) (oi := { dst := some 9, op := Op.load 42 (Operand.tmp 3), type := 42, pos := "exact.go:3838", after := #[], guard := none }) (v := ?vp2) rfl (by kernel_rfl) (by kernel_rfl) (by kernel_rfl) (fun _ _ _ h => h) (Or.inl ⟨by rfl, ?hyp2⟩) hHeld ?_
  case hyp2 => (intro w hSw; (try dsimp only at hSw); go_simp <;> with_reducible rfl)
  try simp only [Act.put, List.setIfInBounds_toArray, List.set_cons_zero, List.set_cons_succ]
  refine wpAnyH_ready (rs := [1]) (by kernel_rfl) (by simp) ?_
  refine AllReadyH.cons (o := { dst := some 8, op := Op.call { callee := Callee.value (Operand.func 30), args := #[Operand.tmp 7], argTypes := #[42] }, type := 26, pos := "exact.go:3838", after := #[{ on := 0, ground := Ground.data }], guard := none }) rfl (fun K hK => ?_) AllReadyH.nil
  go_simp
  refine (toTm_any x0 _).mono ?_
  rintro r wvp0 ⟨rfl, hy⟩
  have hzp0 : Hid (Below w1.heap.size w1 wvp0) := grow_on (Below.refl _ _).drew hy
  clear hHeld hy
  refine hK.out _ _ (HS.out _ hzp0.out) (fun hHeld => ?_)
  clear hK K
  try simp only [Act.put, List.setIfInBounds_toArray, List.set_cons_zero, List.set_cons_succ]
  refine wpAnyH_ready (rs := [3]) (by kernel_rfl) (by simp) ?_
  refine AllReadyH.cons (o := { dst := some 10, op := Op.call { callee := Callee.value (Operand.func 30), args := #[Operand.tmp 9], argTypes := #[42] }, type := 26, pos := "exact.go:3838", after := #[{ on := 2, ground := Ground.data }, { on := 1, ground := Ground.chain }], guard := none }) rfl (fun K hK => ?_) AllReadyH.nil
  go_simp
  refine (toTm_any x1 _).mono ?_
  rintro r wvp1 ⟨rfl, hy⟩
  have hzp1 : Hid (Below w1.heap.size w1 wvp1) := grow_on hzp0.out hy
  clear hHeld hy
  refine hK.out _ _ (HS.out _ hzp1.out) (fun hHeld => ?_)
  clear hK K
  try simp only [Act.put, List.setIfInBounds_toArray, List.set_cons_zero, List.set_cons_succ]
  refine wpAnyH_ready (rs := [4]) (by kernel_rfl) (by simp) ?_
  refine AllReadyH.cons (o := { dst := some 11, op := Op.call { callee := Callee.value (Operand.func 29), args := #[Operand.tmp 8, Operand.tmp 10], argTypes := #[26, 26] }, type := 4, pos := "exact.go:3838", after := #[{ on := 1, ground := Ground.data }, { on := 3, ground := Ground.data }, { on := 3, ground := Ground.chain }], guard := none }) rfl (fun K hK => ?_) AllReadyH.nil
  go_simp
  refine (Hspec.out _).mono ?_
  rintro r wvp2 ⟨rfl, hy⟩
  have hzp2 : Hid (Below w1.heap.size w1 wvp2) := grow_on hzp1.out hy
  clear hHeld hy
  refine hK.out _ _ (HS.out _ hzp2.out) (fun hHeld => ?_)
  clear hK K
  try simp only [Act.put, List.setIfInBounds_toArray, List.set_cons_zero, List.set_cons_succ]
  refine wpAnyH_take (i := 5) (oi := { dst := some 5, op := Op.assign (Operand.tmp 11), type := 4, pos := "exact.go:3838", after := #[{ on := 4, ground := Ground.data }, { on := 4, ground := Ground.chain }, { on := 0, ground := Ground.phase }, { on := 1, ground := Ground.phase }, { on := 2, ground := Ground.phase }, { on := 3, ground := Ground.phase }, { on := 4, ground := Ground.phase }], guard := none }) (v := ?vp5) rfl (by kernel_rfl) (by kernel_rfl) (by kernel_rfl) (fun _ _ _ h => h) (Or.inl ⟨by rfl, ?hyp5⟩) hHeld ?_
  case hyp5 => (intro w hSw; (try dsimp only at hSw); go_simp <;> with_reducible rfl)
  try simp only [Act.put, List.setIfInBounds_toArray, List.set_cons_zero, List.set_cons_succ]
  refine wpAnyH_done (by kernel_rfl) ?_ _
  clear hHeld HS
  obtain ⟨w2, hwx⟩ : ∃ x, wvp2 = x := ⟨_, rfl⟩
  subst hwx
  have hb := hzp2.out
  have B2 : Hid (Below w.heap.size w wvp2) := grow_on B1.out hb
  have Z2 : Hid (w1.heap.size ≤ wvp2.heap.size) := hb.size
  have P_2 : Hid (Blk wvp2 w.heap.size #[.int .i64 x0.1, .int .i64 x0.2] 42) := P_1.out.grow hb
  have Q_2 : Hid (Blk wvp2 (w.heap.size + 1) #[.int .i64 x1.1, .int .i64 x1.2] 42) := Q_1.out.grow hb
  clear hb hzp0 hzp1 hzp2 P_1 Q_1
  obtain ⟨w2, hwx⟩ : ∃ x, x = wvp2 := ⟨_, rfl⟩
  subst hwx
  have HS : Hid (∀ w', Below w2.heap.size w2 w' → Below w2.heap.size w2 w' ∧ w'.cell? ⟨w.heap.size, 0, none⟩ = some (.int .i64 x0.1) ∧ w'.cell? ⟨w.heap.size, 1, none⟩ = some (.int .i64 x0.2) ∧ w'.cell? ⟨(w.heap.size + 1), 0, none⟩ = some (.int .i64 x1.1) ∧ w'.cell? ⟨(w.heap.size + 1), 1, none⟩ = some (.int .i64 x1.2)) := fun w' h => ⟨h, (P_2.out.grow h).cell 0, (P_2.out.grow h).cell 1, (Q_2.out.grow h).cell 0, (Q_2.out.grow h).cell 1⟩
  go_upto_region 2 with fail
  refine wp_region_held_drew (S := fun w' => Below w2.heap.size w2 w' ∧ w'.cell? ⟨w.heap.size, 0, none⟩ = some (.int .i64 x0.1) ∧ w'.cell? ⟨w.heap.size, 1, none⟩ = some (.int .i64 x0.2) ∧ w'.cell? ⟨(w.heap.size + 1), 0, none⟩ = some (.int .i64 x1.1) ∧ w'.cell? ⟨(w.heap.size + 1), 1, none⟩ = some (.int .i64 x1.2)) (by kernel_rfl) (HS.out _ (Below.refl _ _).drew) (fun hHeld => ?_)
  refine wpAnyH_take (i := 0) (oi := { dst := some 12, op := Op.load 42 (Operand.tmp 2), type := 42, pos := "exact.go:3839", after := #[], guard := none }) (v := ?vq0) rfl (by kernel_rfl) (by kernel_rfl) (by kernel_rfl) (fun _ _ _ h => h) (Or.inl ⟨by rfl, ?hyq0⟩) hHeld ?_
  case hyq0 => (intro w hSw; (try dsimp only at hSw); go_simp <;> with_reducible rfl)
  try simp only [Act.put, List.setIfInBounds_toArray, List.set_cons_zero, List.set_cons_succ]
  refine wpAnyH_take (i := 2) (oi := { dst := some 14, op := Op.load 42 (Operand.tmp 3), type := 42, pos := "exact.go:3839", after := #[], guard := none }) (v := ?vq2) rfl (by kernel_rfl) (by kernel_rfl) (by kernel_rfl) (fun _ _ _ h => h) (Or.inl ⟨by rfl, ?hyq2⟩) hHeld ?_
  case hyq2 => (intro w hSw; (try dsimp only at hSw); go_simp <;> with_reducible rfl)
  try simp only [Act.put, List.setIfInBounds_toArray, List.set_cons_zero, List.set_cons_succ]
  refine wpAnyH_ready (rs := [1]) (by kernel_rfl) (by simp) ?_
  refine AllReadyH.cons (o := { dst := some 13, op := Op.call { callee := Callee.value (Operand.func 30), args := #[Operand.tmp 12], argTypes := #[42] }, type := 26, pos := "exact.go:3839", after := #[{ on := 0, ground := Ground.data }], guard := none }) rfl (fun K hK => ?_) AllReadyH.nil
  go_simp
  refine (toTm_any x0 _).mono ?_
  rintro r wvq0 ⟨rfl, hy⟩
  have hzq0 : Hid (Below w2.heap.size w2 wvq0) := grow_on (Below.refl _ _).drew hy
  clear hHeld hy
  refine hK.out _ _ (HS.out _ hzq0.out) (fun hHeld => ?_)
  clear hK K
  try simp only [Act.put, List.setIfInBounds_toArray, List.set_cons_zero, List.set_cons_succ]
  refine wpAnyH_ready (rs := [3]) (by kernel_rfl) (by simp) ?_
  refine AllReadyH.cons (o := { dst := some 15, op := Op.call { callee := Callee.value (Operand.func 30), args := #[Operand.tmp 14], argTypes := #[42] }, type := 26, pos := "exact.go:3839", after := #[{ on := 2, ground := Ground.data }, { on := 1, ground := Ground.chain }], guard := none }) rfl (fun K hK => ?_) AllReadyH.nil
  go_simp
  refine (toTm_any x1 _).mono ?_
  rintro r wvq1 ⟨rfl, hy⟩
  have hzq1 : Hid (Below w2.heap.size w2 wvq1) := grow_on hzq0.out hy
  clear hHeld hy
  refine hK.out _ _ (HS.out _ hzq1.out) (fun hHeld => ?_)
  clear hK K
  try simp only [Act.put, List.setIfInBounds_toArray, List.set_cons_zero, List.set_cons_succ]
  refine wpAnyH_ready (rs := [4]) (by kernel_rfl) (by simp) ?_
  refine AllReadyH.cons (o := { dst := some 16, op := Op.call { callee := Callee.value (Operand.func 16), args := #[Operand.tmp 13, Operand.tmp 15], argTypes := #[26, 26] }, type := 4, pos := "exact.go:3839", after := #[{ on := 1, ground := Ground.data }, { on := 3, ground := Ground.data }, { on := 3, ground := Ground.chain }], guard := none }) rfl (fun K hK => ?_) AllReadyH.nil
  go_simp
  refine (Himpl.out _).mono ?_
  rintro r wvq2 ⟨rfl, hy⟩
  have hzq2 : Hid (Below w2.heap.size w2 wvq2) := grow_on hzq1.out hy
  clear hHeld hy
  refine hK.out _ _ (HS.out _ hzq2.out) (fun hHeld => ?_)
  clear hK K
  try simp only [Act.put, List.setIfInBounds_toArray, List.set_cons_zero, List.set_cons_succ]
  refine wpAnyH_take (i := 5) (oi := { dst := some 6, op := Op.assign (Operand.tmp 16), type := 4, pos := "exact.go:3839", after := #[{ on := 4, ground := Ground.data }, { on := 4, ground := Ground.chain }, { on := 0, ground := Ground.phase }, { on := 1, ground := Ground.phase }, { on := 2, ground := Ground.phase }, { on := 3, ground := Ground.phase }, { on := 4, ground := Ground.phase }], guard := none }) (v := ?vq5) rfl (by kernel_rfl) (by kernel_rfl) (by kernel_rfl) (fun _ _ _ h => h) (Or.inl ⟨by rfl, ?hyq5⟩) hHeld ?_
  case hyq5 => (intro w hSw; (try dsimp only at hSw); go_simp <;> with_reducible rfl)
  try simp only [Act.put, List.setIfInBounds_toArray, List.set_cons_zero, List.set_cons_succ]
  refine wpAnyH_done (by kernel_rfl) ?_ _
  clear hHeld HS
  obtain ⟨w3, hwx⟩ : ∃ x, wvq2 = x := ⟨_, rfl⟩
  subst hwx
  have hb := hzq2.out
  have B3 : Hid (Below w.heap.size w wvq2) := grow_on B2.out hb
  have Z3 : Hid (w2.heap.size ≤ wvq2.heap.size) := hb.size
  have P_3 : Hid (Blk wvq2 w.heap.size #[.int .i64 x0.1, .int .i64 x0.2] 42) := P_2.out.grow hb
  have Q_3 : Hid (Blk wvq2 (w.heap.size + 1) #[.int .i64 x1.1, .int .i64 x1.2] 42) := Q_2.out.grow hb
  clear hb hzq0 hzq1 hzq2 P_2 Q_2
  obtain ⟨w3, hwx⟩ : ∃ x, x = wvq2 := ⟨_, rfl⟩
  subst hwx
  have hbb : (b != b) = false := by cases b <;> rfl
  have cP0 : w3.cell? ⟨w.heap.size, 0, none⟩ = some (.int .i64 x0.1) := P_3.out.cell 0
  have cP1 : w3.cell? ⟨w.heap.size, 1, none⟩ = some (.int .i64 x0.2) := P_3.out.cell 1
  have cQ0 : w3.cell? ⟨(w.heap.size + 1), 0, none⟩ = some (.int .i64 x1.1) := Q_3.out.cell 0
  have cQ1 : w3.cell? ⟨(w.heap.size + 1), 1, none⟩ = some (.int .i64 x1.2) := Q_3.out.cell 1
  go_wp2
  go_ret
  exact ⟨rfl, B3.out⟩
theorem walk (x0 : Tm) (x1 : Tm) (w : World)   :
    Calls Try.prog 5 #[.agg #[.int .i64 x0.1, .int .i64 x0.2], .agg #[.int .i64 x1.1, .int .i64 x1.2]] w fun e w' => e = .returned (.bool true) ∧ Below w.heap.size w w' := walk0 x0 x1 w 
theorem own : ownKnob Try.prog.godebug = none := by kernel_rfl
theorem laidOut : laidOutB Try.prog = true := by kernel_rfl
set_option maxRecDepth 100000 in
theorem lifted (os : Os) (started : os.Started) (H : Type) (enc : TypeId × Value → H) :
    ReturnsInHanded {} Try.checked os 5 .any (Rows.fnExactBeforeSpec.pre6 enc Try.prog Try.f5 Rows.fnExactBeforeRow.domain false) (Rows.fnExactBeforeSpec.post enc Try.prog Try.f5 false true false false) := by
  refine returnsInHanded_of_change (C := Try.checked) own started (by kernel_rfl) Try.func5
    (ChangeSpec.witness6 (enc := enc) (C := Try.checked) false ⟨#[], #[.agg #[.int .i64 0, .int .i64 0], .agg #[.int .i64 0, .int .i64 0]], []⟩ 8 (by kernel_rfl) (by kernel_rfl) (by kernel_rfl) (by kernel_rfl)) ?_
  intro W base args ds gs before hval0 hW hcnd _
  have hval : ∀ (j : Nat) t v, Try.f5.params[j]? = some t → args[j]? = some v → Value.okWide Try.prog W .any base t v := hval0
  have hW' := hW
  obtain ⟨p, q, hA0, hV, rfl, hfz, hnd⟩ := hW
  have hA : DataW.TrodAll enc Try.prog W 0 (fun _ => true) true Try.f5.params.toList args.toList ds p := hA0
  rw [Try.params5] at hA hval
  obtain ⟨v0, vs0, d0, ds0, p0, q0, hargs, rfl, rfl, h0, r0⟩ := trodAll_cons hA
  obtain ⟨v1, vs1, d1, ds1, p1, q1, rfl, rfl, rfl, h1, r1⟩ := trodAll_cons r0
  obtain ⟨rfl, rfl, rfl⟩ := trodAll_nil r1
  obtain rfl : args = #[v0, v1] := by cases args; simp_all
  obtain ⟨rfl, rfl⟩ := trodVars_none hV
  have k0 := h0
  have lt0 : ∀ x ∈ p0, x.block < W.heap.size := by obtain ⟨m, hm⟩ := k0; exact DataW.trod_lt m _ _ _ hm
  obtain ⟨x0, rfl⟩ := Go.Proofs.Ytcjhieknmblbbaa.Tms.open_tm (hval 0 42 v0 rfl rfl) h0
  have k1 := h1
  have lt1 : ∀ x ∈ p1, x.block < W.heap.size := by obtain ⟨m, hm⟩ := k1; exact DataW.trod_lt m _ _ _ hm
  obtain ⟨x1, rfl⟩ := Go.Proofs.Ytcjhieknmblbbaa.Tms.open_tm (hval 1 42 v1 rfl rfl) h1
  clear hA0 hval0
  refine (walk x0 x1 W  ).mono fun e W' ⟨he, bel⟩ => ?_
  subst he
  exact ⟨_, rfl, _, _, _, [], _, [], hW', trodAll_mk1 (shut_bool Try.underlying4 _), (trodAll_cons_mk (Below.trod laidOut (by kernel_rfl) (of_decide_eq_true (by kernel_rfl)) k0 bel lt0) (trodAll_cons_mk (Below.trod laidOut (by kernel_rfl) (of_decide_eq_true (by kernel_rfl)) k1 bel lt1) trodAll_mk0)), rfl, bel.frame _, fun h => by cases h⟩

theorem over : Rows.fnExactBeforeRow.holds Try.pinned (OpenSpec.ofChange Rows.fnExactBeforeSpec) :=
  OpenClaim.holds_of_wide 5 Try.f5 rfl rfl rfl rfl rfl rfl rfl ⟨rfl, rfl, rfl, rfl, rfl⟩ rfl rfl rfl rfl rfl (by kernel_rfl) Try.func5 (by kernel_rfl)
    (of_decide_eq_true (by kernel_rfl)) (by unfold Func.isWrapper; first | (rw [if_pos (by decide +kernel)]; kernel_rfl) | (rw [if_neg (by decide +kernel)]; exact ⟨rfl, rfl⟩))
    (fun os started H enc _ => lifted os started H enc)

end Go.Proofs.Ytcjhieknmblbbaa.FnExactBefore
namespace Go.Proofs.Ytcjhieknmblbbaa
theorem fnExactBefore_holds : Rows.FnExactBeforeSaid := FnExactBefore.over
#print axioms fnExactBefore_holds
end Go.Proofs.Ytcjhieknmblbbaa
