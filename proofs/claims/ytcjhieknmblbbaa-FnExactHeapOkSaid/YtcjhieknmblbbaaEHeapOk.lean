/-
  PROVED: at every list of timers impl.HeapOk answers as spec.HeapOk, leaves it as it was, keeps nothing of it, and its answer lies in memory of its own, so the law laws.FnExactHeapOk returns true, whatever its arguments. No condition.
-/
import Derived.Test.YtcjhieknmblbbaaRows
import Derived.WalkKit
import Derived.ProofKit
import Derived.OpenShut
import Derived.ShutString
import Derived.ChangeOld
import Derived.Below
import Derived.WalkLawsBesides
import Derived.WalkSpells
import Derived.Test.YtcjhieknmblbbaaTmX
import Derived.Test.YtcjhieknmblbbaaHpI
import Derived.Deep.RegionHeld3
namespace Go.Proofs.Ytcjhieknmblbbaa.FnExactHeapOk
open Go.ChangeShapes Go.WideShapes Go.ChangeAt Go.RowKit
open Go.ChangeMaps (open_string shut_string)
set_option linter.unusedVariables false

open Go.Proofs.Ytcjhieknmblbbaa.Hp Go.Proofs.Ytcjhieknmblbbaa.Tms Go.Proofs.Ytcjhieknmblbbaa.TmO Go.Proofs.Ytcjhieknmblbbaa.TmR Go.Proofs.Ytcjhieknmblbbaa.TmX Go.Proofs.Ytcjhieknmblbbaa.HpS Go.Proofs.Ytcjhieknmblbbaa.HpD Go.Proofs.Ytcjhieknmblbbaa.HpT Go.Proofs.Ytcjhieknmblbbaa.HpO Go.Proofs.Ytcjhieknmblbbaa.HpI Go.Proofs.Ytcjhieknmblbbaa.Over Go.Proofs.Ytcjhieknmblbbaa.Blk
open Go.Proofs.Ytcjhieknmblbbaa.Mark (Apart)
set_option linter.unusedVariables false
set_option maxRecDepth 100000 in
set_option maxHeartbeats 4000000 in
theorem walk0 (a0 : Option Addr) (cap0 : Nat) (l0 : List Tm) (w : World) (r0 : RdT w a0 l0) (m0 : l0.length ≤ maxLen) :
    Calls Try.prog 6 #[.slice a0 l0.length cap0] w fun e w' => e = .returned (.bool true) ∧ Below w.heap.size w w' := by

  have R0 : Hid (RdT w a0 l0) := r0
  have K0 : Hid (l0.length ≤ maxLen) := m0
  clear r0
  go_enter Try.func6, Try.ntmps6
  go_wp2_with fail
  refine (sz_any a0 cap0 l0 1048576 _ K0.out (by decide) (by decide)).mono ?_
  rintro e w1 ⟨⟨nn, rfl, h1, h2⟩, hb⟩
  by_cases hneg : nn < 0
  · go_wp2
    go_ret
    exact ⟨rfl, hb⟩
  have HL : Hid (l0.length ≤ 1048576) := by have := h2 (by omega); unfold Hid; omega
  clear h1 h2
  have B1 : Hid (Below w.heap.size w w1) := hb
  have Z1 : Hid (w.heap.size ≤ w1.heap.size) := hb.size
  go_wp2_with fail
  refine (copyT_any a0 cap0 l0 _ (R0.out.below B1.out) HL.out).mono ?_
  rintro e w2 ⟨⟨rfl, ho⟩, hb⟩
  have NS : Hid (OT w1.heap.size w2 w1.heap.size l0.length l0) := ho
  have B2 : Hid (Below w.heap.size w w2) := grow_on B1.out hb
  have Z2 : Hid (w1.heap.size ≤ w2.heap.size) := hb.size
  clear hb
  have S_2 : Hid (OT w1.heap.size w2 w1.heap.size l0.length l0) := NS.out
  have US : Hid (w1.heap.size ≤ w1.heap.size ∧ w1.heap.size < w2.heap.size) := ⟨NS.out.lo, NS.out.lt⟩
  clear NS
  go_wp2_with fail
  refine (specHeapOk_any _ _ l0 _ S_2.out.rd K0.out).mono ?_
  rintro e w3 ⟨rfl, hb⟩
  have B3 : Hid (Below w.heap.size w w3) := grow_on B2.out hb
  have Z3 : Hid (w2.heap.size ≤ w3.heap.size) := hb.size
  have S_3 : Hid (OT w1.heap.size w3 w1.heap.size l0.length l0) := S_2.out.grow hb
  clear hb S_2
  clear S_3
  go_wp2_with fail
  refine (copyT_any a0 cap0 l0 _ (R0.out.below B3.out) HL.out).mono ?_
  rintro e w4 ⟨⟨rfl, ho⟩, hb⟩
  have NX : Hid (OT w3.heap.size w4 w3.heap.size l0.length l0) := ho
  have B4 : Hid (Below w.heap.size w w4) := grow_on B3.out hb
  have Z4 : Hid (w3.heap.size ≤ w4.heap.size) := hb.size
  clear hb
  have X_4 : Hid (OT w3.heap.size w4 w3.heap.size l0.length l0) := NX.out
  have UX : Hid (w3.heap.size ≤ w3.heap.size ∧ w3.heap.size < w4.heap.size) := ⟨NX.out.lo, NX.out.lt⟩
  clear NX
  go_wp2_with fail
  refine (implHeapOk_any _ _ l0 _ X_4.out.rd K0.out).mono ?_
  rintro e w5 ⟨rfl, hb⟩
  have B5 : Hid (Below w.heap.size w w5) := grow_on B4.out hb
  have Z5 : Hid (w4.heap.size ≤ w5.heap.size) := hb.size
  have X_5 : Hid (OT w3.heap.size w5 w3.heap.size l0.length l0) := X_4.out.grow hb
  clear hb X_4
  go_wp2_with fail
  refine (copyT_any a0 cap0 l0 _ (R0.out.below B5.out) HL.out).mono ?_
  rintro e w6 ⟨⟨rfl, ho⟩, hb⟩
  have NE : Hid (OT w5.heap.size w6 w5.heap.size l0.length l0) := ho
  have B6 : Hid (Below w.heap.size w w6) := grow_on B5.out hb
  have Z6 : Hid (w5.heap.size ≤ w6.heap.size) := hb.size
  have X_6 : Hid (OT w3.heap.size w6 w3.heap.size l0.length l0) := X_5.out.grow hb
  clear hb X_5
  have E_6 : Hid (OT w5.heap.size w6 w5.heap.size l0.length l0) := NE.out
  have UE : Hid (w5.heap.size ≤ w5.heap.size ∧ w5.heap.size < w6.heap.size) := ⟨NE.out.lo, NE.out.lt⟩
  clear NE
  go_wp2_with fail
  refine (eqT_any _ _ _ _ l0 _ X_6.out.rd E_6.out.rd (by have := HL.out; have := K0.out; unfold maxLen at *; omega)).mono ?_
  rintro e w7 ⟨rfl, hb⟩
  have B7 : Hid (Below w.heap.size w w7) := grow_on B6.out hb
  have Z7 : Hid (w6.heap.size ≤ w7.heap.size) := hb.size
  have X_7 : Hid (OT w3.heap.size w7 w3.heap.size l0.length l0) := X_6.out.grow hb
  have E_7 : Hid (OT w5.heap.size w7 w5.heap.size l0.length l0) := E_6.out.grow hb
  clear hb X_6 E_6
  go_wp2
  go_ret
  exact ⟨rfl, B7.out⟩
theorem walk (a0 : Option Addr) (cap0 : Nat) (l0 : List Tm) (w : World) (r0 : RdT w a0 l0) (m0 : l0.length ≤ maxLen) :
    Calls Try.prog 6 #[.slice a0 l0.length cap0] w fun e w' => e = .returned (.bool true) ∧ Below w.heap.size w w' := walk0 a0 cap0 l0 w r0 m0
theorem own : ownKnob Try.prog.godebug = none := by kernel_rfl
theorem laidOut : laidOutB Try.prog = true := by kernel_rfl
set_option maxRecDepth 100000 in
theorem lifted (os : Os) (started : os.Started) (H : Type) (enc : TypeId × Value → H) :
    ReturnsInHanded {} Try.checked os 6 .any (Rows.fnExactHeapOkSpec.pre6 enc Try.prog Try.f6 Rows.fnExactHeapOkRow.domain false) (Rows.fnExactHeapOkSpec.post enc Try.prog Try.f6 false true false false) := by
  refine returnsInHanded_of_change (C := Try.checked) own started (by kernel_rfl) Try.func6
    (ChangeSpec.witness6 (enc := enc) (C := Try.checked) false ⟨#[], #[.slice none 0 0], []⟩ 8 (by kernel_rfl) (by kernel_rfl) (by kernel_rfl) (by kernel_rfl)) ?_
  intro W base args ds gs before hval0 hW hcnd _
  have hval : ∀ (j : Nat) t v, Try.f6.params[j]? = some t → args[j]? = some v → Value.okWide Try.prog W .any base t v := hval0
  have hW' := hW
  obtain ⟨p, q, hA0, hV, rfl, hfz, hnd⟩ := hW
  have hA : DataW.TrodAll enc Try.prog W 0 (fun _ => true) true Try.f6.params.toList args.toList ds p := hA0
  rw [Try.params6] at hA hval
  obtain ⟨v0, vs0, d0, ds0, p0, q0, hargs, rfl, rfl, h0, r0⟩ := trodAll_cons hA
  obtain ⟨rfl, rfl, rfl⟩ := trodAll_nil r0
  obtain rfl : args = #[v0] := by cases args; simp_all
  obtain ⟨rfl, rfl⟩ := trodVars_none hV
  obtain ⟨a0, len0, cap0, rfl⟩ := okWide_slice Try.underlying45 (hval 0 45 v0 rfl rfl)
  have k0 := h0
  have lt0 : ∀ x ∈ p0, x.block < W.heap.size := by obtain ⟨m, hm⟩ := k0; exact DataW.trod_lt m _ _ _ hm
  obtain ⟨fu0, ho0⟩ := h0
  obtain ⟨l0, rfl, w0, m0⟩ := Go.Proofs.Ytcjhieknmblbbaa.Tms.open_tms ho0
  clear hA0 hval0
  refine (walk a0 cap0 l0 W w0 m0).mono fun e W' ⟨he, bel⟩ => ?_
  subst he
  exact ⟨_, rfl, _, _, _, [], _, [], hW', trodAll_mk1 (shut_bool Try.underlying4 _), (trodAll_cons_mk (Below.trod laidOut (by kernel_rfl) (of_decide_eq_true (by kernel_rfl)) k0 bel lt0) trodAll_mk0), rfl, bel.frame _, fun h => by cases h⟩

theorem over : Rows.fnExactHeapOkRow.holds Try.pinned (OpenSpec.ofChange Rows.fnExactHeapOkSpec) :=
  OpenClaim.holds_of_wide 6 Try.f6 rfl rfl rfl rfl rfl rfl rfl ⟨rfl, rfl, rfl, rfl, rfl⟩ rfl rfl rfl rfl rfl (by kernel_rfl) Try.func6 (by kernel_rfl)
    (of_decide_eq_true (by kernel_rfl)) (by unfold Func.isWrapper; first | (rw [if_pos (by decide +kernel)]; kernel_rfl) | (rw [if_neg (by decide +kernel)]; exact ⟨rfl, rfl⟩))
    (fun os started H enc _ => lifted os started H enc)

end Go.Proofs.Ytcjhieknmblbbaa.FnExactHeapOk
namespace Go.Proofs.Ytcjhieknmblbbaa
theorem fnExactHeapOk_holds : Rows.FnExactHeapOkSaid := FnExactHeapOk.over
#print axioms fnExactHeapOk_holds
end Go.Proofs.Ytcjhieknmblbbaa
