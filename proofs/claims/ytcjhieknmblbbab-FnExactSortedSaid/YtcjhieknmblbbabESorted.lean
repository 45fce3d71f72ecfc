/-
  PROVED: at every list of timers impl.Sorted answers as spec.Sorted, leaves it as it was, keeps nothing of it, and its answer lies in memory of its own, so the law laws.FnExactSorted returns true, whatever its arguments. No condition.
-/
import Derived.Test.YtcjhieknmblbbabRows
import Derived.WalkKit
import Derived.ProofKit
import Derived.OpenShut
import Derived.ShutString
import Derived.ChangeOld
import Derived.Below
import Derived.WalkLawsBesides
import Derived.WalkSpells
import Derived.Test.YtcjhieknmblbbabTmX
import Derived.Test.YtcjhieknmblbbabHpI
import Derived.Deep.RegionHeld3
namespace Go.Proofs.Ytcjhieknmblbbab.FnExactSorted
open Go.ChangeShapes Go.WideShapes Go.ChangeAt Go.RowKit
open Go.ChangeMaps (open_string shut_string)
set_option linter.unusedVariables false

open Go.Proofs.Ytcjhieknmblbbab.Hp Go.Proofs.Ytcjhieknmblbbab.Tms Go.Proofs.Ytcjhieknmblbbab.TmO Go.Proofs.Ytcjhieknmblbbab.TmR Go.Proofs.Ytcjhieknmblbbab.TmX Go.Proofs.Ytcjhieknmblbbab.HpS Go.Proofs.Ytcjhieknmblbbab.HpD Go.Proofs.Ytcjhieknmblbbab.HpT Go.Proofs.Ytcjhieknmblbbab.HpO Go.Proofs.Ytcjhieknmblbbab.HpI Go.Proofs.Ytcjhieknmblbbab.Over Go.Proofs.Ytcjhieknmblbbab.Blk
open Go.Proofs.Ytcjhieknmblbbab.Mark (Apart)
set_option linter.unusedVariables false
set_option maxRecDepth 100000 in
set_option maxHeartbeats 4000000 in
theorem walk0 (a0 : Option Addr) (cap0 : Nat) (l0 : List Tm) (w : World) (r0 : RdT w a0 l0) (m0 : l0.length ≤ maxLen) :
    Calls Try.prog 4 #[.slice a0 l0.length cap0] w fun e w' => e = .returned (.bool true) ∧ Below w.heap.size w w' := by

  have R0 : Hid (RdT w a0 l0) := r0
  have K0 : Hid (l0.length ≤ maxLen) := m0
  clear r0
  go_enter Try.func4, Try.ntmps4
  go_wp2_with fail
  refine (sz_any a0 cap0 l0 1048576 _ K0.out (by decide) (by decide)).mono ?_
  rintro e w1 ⟨⟨nn, rfl, h1, h2⟩, hb⟩
  by_cases hneg : nn < 0
  · go_wp2
    go_ret
    exact ⟨rfl, hb⟩
  have HL : Hid (l0.length ≤ 1048576) := by have := h2 (by omega); unfold Hid; omega
  clear h1 h2
  have B1 : Hid (Below w.heap.size w w1) := hb
  have Z1 : Hid (w.heap.size ≤ w1.heap.size) := hb.size
  have PL : Hid ((sortT l0).length ≤ l0.length + 1) := by rw [sort_length]; unfold Hid; omega
  go_wp2_with fail
  refine (copyT_any a0 cap0 l0 _ (R0.out.below B1.out) HL.out).mono ?_
  rintro e w2 ⟨⟨rfl, ho⟩, hb⟩
  have NS : Hid (OT w1.heap.size w2 w1.heap.size l0.length l0) := ho
  have B2 : Hid (Below w.heap.size w w2) := grow_on B1.out hb
  have Z2 : Hid (w1.heap.size ≤ w2.heap.size) := hb.size
  clear hb
  have S_2 : Hid (OT w1.heap.size w2 w1.heap.size l0.length l0) := NS.out
  have US : Hid (w1.heap.size ≤ w1.heap.size ∧ w1.heap.size < w2.heap.size) := ⟨NS.out.lo, NS.out.lt⟩
  clear NS
  go_wp2_with fail
  refine (specSorted_any _ 0 _ l0 _ S_2.out.rd (by have := HL.out; omega)).mono ?_
  rintro e w3 ⟨⟨WM, Wc, rfl, ho⟩, hb⟩
  have NW : Hid (OT w2.heap.size w3 WM Wc (sortT l0)) := ho
  have B3 : Hid (Below w.heap.size w w3) := grow_on B2.out hb
  have Z3 : Hid (w2.heap.size ≤ w3.heap.size) := hb.size
  have S_3 : Hid (OT w1.heap.size w3 w1.heap.size l0.length l0) := S_2.out.grow hb
  clear hb S_2
  have W_3 : Hid (OT w2.heap.size w3 WM Wc (sortT l0)) := NW.out
  have UW : Hid (w2.heap.size ≤ WM ∧ WM < w3.heap.size) := ⟨NW.out.lo, NW.out.lt⟩
  clear NW
  clear S_3
  go_wp2_with fail
  refine (copyT_any a0 cap0 l0 _ (R0.out.below B3.out) HL.out).mono ?_
  rintro e w4 ⟨⟨rfl, ho⟩, hb⟩
  have NX : Hid (OT w3.heap.size w4 w3.heap.size l0.length l0) := ho
  have B4 : Hid (Below w.heap.size w w4) := grow_on B3.out hb
  have Z4 : Hid (w3.heap.size ≤ w4.heap.size) := hb.size
  have W_4 : Hid (OT w2.heap.size w4 WM Wc (sortT l0)) := W_3.out.grow hb
  clear hb W_3
  have X_4 : Hid (OT w3.heap.size w4 w3.heap.size l0.length l0) := NX.out
  have UX : Hid (w3.heap.size ≤ w3.heap.size ∧ w3.heap.size < w4.heap.size) := ⟨NX.out.lo, NX.out.lt⟩
  clear NX
  go_wp2_with fail
  refine (implSorted_any _ 0 _ l0 _ X_4.out.rd (by have := HL.out; omega)).mono ?_
  rintro e w5 ⟨⟨GM, Gc, rfl, ho⟩, hb⟩
  have NG : Hid (OT w4.heap.size w5 GM Gc (sortT l0)) := ho
  have B5 : Hid (Below w.heap.size w w5) := grow_on B4.out hb
  have Z5 : Hid (w4.heap.size ≤ w5.heap.size) := hb.size
  have W_5 : Hid (OT w2.heap.size w5 WM Wc (sortT l0)) := W_4.out.grow hb
  have X_5 : Hid (OT w3.heap.size w5 w3.heap.size l0.length l0) := X_4.out.grow hb
  clear hb W_4 X_4
  have G_5 : Hid (OT w4.heap.size w5 GM Gc (sortT l0)) := NG.out
  have UG : Hid (w4.heap.size ≤ GM ∧ GM < w5.heap.size) := ⟨NG.out.lo, NG.out.lt⟩
  clear NG
  go_wp2_with fail
  refine (eqT_any _ _ _ _ (sortT l0) _ G_5.out.rd W_5.out.rd (by have := HL.out; have := PL.out; unfold maxLen at *; omega)).mono ?_
  rintro e w6 ⟨rfl, hb⟩
  have B6 : Hid (Below w.heap.size w w6) := grow_on B5.out hb
  have Z6 : Hid (w5.heap.size ≤ w6.heap.size) := hb.size
  have W_6 : Hid (OT w2.heap.size w6 WM Wc (sortT l0)) := W_5.out.grow hb
  have X_6 : Hid (OT w3.heap.size w6 w3.heap.size l0.length l0) := X_5.out.grow hb
  have G_6 : Hid (OT w4.heap.size w6 GM Gc (sortT l0)) := G_5.out.grow hb
  clear hb W_5 X_5 G_5
  go_wp2_with fail
  refine (copyT_any a0 cap0 l0 _ (R0.out.below B6.out) HL.out).mono ?_
  rintro e w7 ⟨⟨rfl, ho⟩, hb⟩
  have NE : Hid (OT w6.heap.size w7 w6.heap.size l0.length l0) := ho
  have B7 : Hid (Below w.heap.size w w7) := grow_on B6.out hb
  have Z7 : Hid (w6.heap.size ≤ w7.heap.size) := hb.size
  have W_7 : Hid (OT w2.heap.size w7 WM Wc (sortT l0)) := W_6.out.grow hb
  have X_7 : Hid (OT w3.heap.size w7 w3.heap.size l0.length l0) := X_6.out.grow hb
  have G_7 : Hid (OT w4.heap.size w7 GM Gc (sortT l0)) := G_6.out.grow hb
  clear hb W_6 X_6 G_6
  have E_7 : Hid (OT w6.heap.size w7 w6.heap.size l0.length l0) := NE.out
  have UE : Hid (w6.heap.size ≤ w6.heap.size ∧ w6.heap.size < w7.heap.size) := ⟨NE.out.lo, NE.out.lt⟩
  clear NE
  go_wp2_with fail
  refine (eqT_any _ _ _ _ l0 _ X_7.out.rd E_7.out.rd (by have := HL.out; have := K0.out; unfold maxLen at *; omega)).mono ?_
  rintro e w8 ⟨rfl, hb⟩
  have B8 : Hid (Below w.heap.size w w8) := grow_on B7.out hb
  have Z8 : Hid (w7.heap.size ≤ w8.heap.size) := hb.size
  have W_8 : Hid (OT w2.heap.size w8 WM Wc (sortT l0)) := W_7.out.grow hb
  have X_8 : Hid (OT w3.heap.size w8 w3.heap.size l0.length l0) := X_7.out.grow hb
  have G_8 : Hid (OT w4.heap.size w8 GM Gc (sortT l0)) := G_7.out.grow hb
  have E_8 : Hid (OT w6.heap.size w8 w6.heap.size l0.length l0) := E_7.out.grow hb
  clear hb W_7 X_7 G_7 E_7
  clear E_8
  go_wp2_with fail
  refine (markT_any _ _ _ _ 1 l0 _ X_8.out (by have := HL.out; have := PL.out; omega) (by decide) (by decide)).mono ?_
  rintro e w9 ⟨rfl, hm, ha⟩
  have B9 : Hid (Below w.heap.size w w9) := B8.out.trans (ha.low (by have := Z1.out; have := Z2.out; have := US.out; have := Z3.out; have := UW.out; have := Z4.out; have := UX.out; have := Z5.out; have := UG.out; have := Z6.out; have := Z7.out; have := UE.out; have := Z8.out; omega) B8.out.size)
  have Z9 : Hid (w8.heap.size ≤ w9.heap.size) := ha.size
  have W_9 : Hid (OT w2.heap.size w9 WM Wc (sortT l0)) := ot_apart W_8.out ha (by have := Z1.out; have := Z2.out; have := US.out; have := Z3.out; have := UW.out; have := Z4.out; have := UX.out; have := Z5.out; have := UG.out; have := Z6.out; have := Z7.out; have := UE.out; have := Z8.out; have := Z9.out; omega)
  have G_9 : Hid (OT w4.heap.size w9 GM Gc (sortT l0)) := ot_apart G_8.out ha (by have := Z1.out; have := Z2.out; have := US.out; have := Z3.out; have := UW.out; have := Z4.out; have := UX.out; have := Z5.out; have := UG.out; have := Z6.out; have := Z7.out; have := UE.out; have := Z8.out; have := Z9.out; omega)
  clear ha W_8 X_8 G_8
  have X_9 : Hid (MT w9 w3.heap.size 1 l0.length) := hm
  clear hm
  clear X_9
  have hq : ¬ ((1 + 2 * l0.length : Nat) : Int) < 0 := by omega
  go_wp2_with fail
  refine (eqT_any _ _ _ _ (sortT l0) _ G_9.out.rd W_9.out.rd (by have := HL.out; have := PL.out; unfold maxLen at *; omega)).mono ?_
  rintro e w10 ⟨rfl, hb⟩
  have B10 : Hid (Below w.heap.size w w10) := grow_on B9.out hb
  have Z10 : Hid (w9.heap.size ≤ w10.heap.size) := hb.size
  have W_10 : Hid (OT w2.heap.size w10 WM Wc (sortT l0)) := W_9.out.grow hb
  have G_10 : Hid (OT w4.heap.size w10 GM Gc (sortT l0)) := G_9.out.grow hb
  clear hb W_9 G_9
  clear hq
  go_wp2_with fail
  refine (markT_any _ _ _ _ 1 (sortT l0) _ G_10.out (by have := HL.out; have := PL.out; omega) (by decide) (by decide)).mono ?_
  rintro e w11 ⟨rfl, hm, ha⟩
  have B11 : Hid (Below w.heap.size w w11) := B10.out.trans (ha.low (by have := Z1.out; have := Z2.out; have := US.out; have := Z3.out; have := UW.out; have := Z4.out; have := UX.out; have := Z5.out; have := UG.out; have := Z6.out; have := Z7.out; have := UE.out; have := Z8.out; have := Z9.out; have := Z10.out; omega) B10.out.size)
  have Z11 : Hid (w10.heap.size ≤ w11.heap.size) := ha.size
  have W_11 : Hid (OT w2.heap.size w11 WM Wc (sortT l0)) := ot_apart W_10.out ha (by have := Z1.out; have := Z2.out; have := US.out; have := Z3.out; have := UW.out; have := Z4.out; have := UX.out; have := Z5.out; have := UG.out; have := Z6.out; have := Z7.out; have := UE.out; have := Z8.out; have := Z9.out; have := Z10.out; have := Z11.out; omega)
  clear ha W_10 G_10
  have G_11 : Hid (MT w11 GM 1 (sortT l0).length) := hm
  clear hm
  have hq : ¬ ((1 + 2 * (sortT l0).length : Nat) : Int) < 0 := by omega
  go_wp2_with fail
  refine (heldT_any GM (sortT l0).length _ 1 _ G_11.out (by have := HL.out; have := PL.out; omega) (by decide) (by decide)).mono ?_
  rintro e w12 ⟨rfl, hb⟩
  have B12 : Hid (Below w.heap.size w w12) := grow_on B11.out hb
  have Z12 : Hid (w11.heap.size ≤ w12.heap.size) := hb.size
  have W_12 : Hid (OT w2.heap.size w12 WM Wc (sortT l0)) := W_11.out.grow hb
  have G_12 : Hid (MT w12 GM 1 (sortT l0).length) := G_11.out.grow hb
  clear hb W_11 G_11
  clear hq
  go_wp2_with fail
  refine (copyT_any a0 cap0 l0 _ (R0.out.below B12.out) HL.out).mono ?_
  rintro e w13 ⟨⟨rfl, ho⟩, hb⟩
  have NY : Hid (OT w12.heap.size w13 w12.heap.size l0.length l0) := ho
  have B13 : Hid (Below w.heap.size w w13) := grow_on B12.out hb
  have Z13 : Hid (w12.heap.size ≤ w13.heap.size) := hb.size
  have W_13 : Hid (OT w2.heap.size w13 WM Wc (sortT l0)) := W_12.out.grow hb
  have G_13 : Hid (MT w13 GM 1 (sortT l0).length) := G_12.out.grow hb
  clear hb W_12 G_12
  have Y_13 : Hid (OT w12.heap.size w13 w12.heap.size l0.length l0) := NY.out
  have UY : Hid (w12.heap.size ≤ w12.heap.size ∧ w12.heap.size < w13.heap.size) := ⟨NY.out.lo, NY.out.lt⟩
  clear NY
  go_wp2_with fail
  refine (implSorted_any _ 0 _ l0 _ Y_13.out.rd (by have := HL.out; omega)).mono ?_
  rintro e w14 ⟨⟨HM, Hc, rfl, ho⟩, hb⟩
  have NH : Hid (OT w13.heap.size w14 HM Hc (sortT l0)) := ho
  have B14 : Hid (Below w.heap.size w w14) := grow_on B13.out hb
  have Z14 : Hid (w13.heap.size ≤ w14.heap.size) := hb.size
  have W_14 : Hid (OT w2.heap.size w14 WM Wc (sortT l0)) := W_13.out.grow hb
  have G_14 : Hid (MT w14 GM 1 (sortT l0).length) := G_13.out.grow hb
  have Y_14 : Hid (OT w12.heap.size w14 w12.heap.size l0.length l0) := Y_13.out.grow hb
  clear hb W_13 G_13 Y_13
  have H_14 : Hid (OT w13.heap.size w14 HM Hc (sortT l0)) := NH.out
  have UH : Hid (w13.heap.size ≤ HM ∧ HM < w14.heap.size) := ⟨NH.out.lo, NH.out.lt⟩
  clear NH
  go_wp2_with fail
  refine (eqT_any _ _ _ _ (sortT l0) _ H_14.out.rd W_14.out.rd (by have := HL.out; have := PL.out; unfold maxLen at *; omega)).mono ?_
  rintro e w15 ⟨rfl, hb⟩
  have B15 : Hid (Below w.heap.size w w15) := grow_on B14.out hb
  have Z15 : Hid (w14.heap.size ≤ w15.heap.size) := hb.size
  have W_15 : Hid (OT w2.heap.size w15 WM Wc (sortT l0)) := W_14.out.grow hb
  have G_15 : Hid (MT w15 GM 1 (sortT l0).length) := G_14.out.grow hb
  have Y_15 : Hid (OT w12.heap.size w15 w12.heap.size l0.length l0) := Y_14.out.grow hb
  have H_15 : Hid (OT w13.heap.size w15 HM Hc (sortT l0)) := H_14.out.grow hb
  clear hb W_14 G_14 Y_14 H_14
  have hq : ¬ ((1 + 2 * (sortT l0).length : Nat) : Int) < 0 := by omega
  go_wp2_with fail
  refine (heldT_any GM (sortT l0).length _ 1 _ G_15.out (by have := HL.out; have := PL.out; omega) (by decide) (by decide)).mono ?_
  rintro e w16 ⟨rfl, hb⟩
  have B16 : Hid (Below w.heap.size w w16) := grow_on B15.out hb
  have Z16 : Hid (w15.heap.size ≤ w16.heap.size) := hb.size
  have W_16 : Hid (OT w2.heap.size w16 WM Wc (sortT l0)) := W_15.out.grow hb
  have G_16 : Hid (MT w16 GM 1 (sortT l0).length) := G_15.out.grow hb
  have Y_16 : Hid (OT w12.heap.size w16 w12.heap.size l0.length l0) := Y_15.out.grow hb
  have H_16 : Hid (OT w13.heap.size w16 HM Hc (sortT l0)) := H_15.out.grow hb
  clear hb W_15 G_15 Y_15 H_15
  go_wp2
  go_ret
  exact ⟨rfl, B16.out⟩
theorem walk (a0 : Option Addr) (cap0 : Nat) (l0 : List Tm) (w : World) (r0 : RdT w a0 l0) (m0 : l0.length ≤ maxLen) :
    Calls Try.prog 4 #[.slice a0 l0.length cap0] w fun e w' => e = .returned (.bool true) ∧ Below w.heap.size w w' := walk0 a0 cap0 l0 w r0 m0
theorem own : ownKnob Try.prog.godebug = none := by kernel_rfl
theorem laidOut : laidOutB Try.prog = true := by kernel_rfl
set_option maxRecDepth 100000 in
theorem lifted (os : Os) (started : os.Started) (H : Type) (enc : TypeId × Value → H) :
    ReturnsInHanded {} Try.checked os 4 .any (Rows.fnExactSortedSpec.pre6 enc Try.prog Try.f4 Rows.fnExactSortedRow.domain false) (Rows.fnExactSortedSpec.post enc Try.prog Try.f4 false true false false) := by
  refine returnsInHanded_of_change (C := Try.checked) own started (by kernel_rfl) Try.func4
    (ChangeSpec.witness6 (enc := enc) (C := Try.checked) false ⟨#[], #[.slice none 0 0], []⟩ 8 (by kernel_rfl) (by kernel_rfl) (by kernel_rfl) (by kernel_rfl)) ?_
  intro W base args ds gs before hval0 hW hcnd _
  have hval : ∀ (j : Nat) t v, Try.f4.params[j]? = some t → args[j]? = some v → Value.okWide Try.prog W .any base t v := hval0
  have hW' := hW
  obtain ⟨p, q, hA0, hV, rfl, hfz, hnd⟩ := hW
  have hA : DataW.TrodAll enc Try.prog W 0 (fun _ => true) true Try.f4.params.toList args.toList ds p := hA0
  rw [Try.params4] at hA hval
  obtain ⟨v0, vs0, d0, ds0, p0, q0, hargs, rfl, rfl, h0, r0⟩ := trodAll_cons hA
  obtain ⟨rfl, rfl, rfl⟩ := trodAll_nil r0
  obtain rfl : args = #[v0] := by cases args; simp_all
  obtain ⟨rfl, rfl⟩ := trodVars_none hV
  obtain ⟨a0, len0, cap0, rfl⟩ := okWide_slice Try.underlying22 (hval 0 22 v0 rfl rfl)
  have k0 := h0
  have lt0 : ∀ x ∈ p0, x.block < W.heap.size := by obtain ⟨m, hm⟩ := k0; exact DataW.trod_lt m _ _ _ hm
  obtain ⟨fu0, ho0⟩ := h0
  obtain ⟨l0, rfl, w0, m0⟩ := Go.Proofs.Ytcjhieknmblbbab.Tms.open_tms ho0
  clear hA0 hval0
  refine (walk a0 cap0 l0 W w0 m0).mono fun e W' ⟨he, bel⟩ => ?_
  subst he
  exact ⟨_, rfl, _, _, _, [], _, [], hW', trodAll_mk1 (shut_bool Try.underlying4 _), (trodAll_cons_mk (Below.trod laidOut (by kernel_rfl) (of_decide_eq_true (by kernel_rfl)) k0 bel lt0) trodAll_mk0), rfl, bel.frame _, fun h => by cases h⟩

theorem over : Rows.fnExactSortedRow.holds Try.pinned (OpenSpec.ofChange Rows.fnExactSortedSpec) :=
  OpenClaim.holds_of_wide 4 Try.f4 rfl rfl rfl rfl rfl rfl rfl ⟨rfl, rfl, rfl, rfl, rfl⟩ rfl rfl rfl rfl rfl (by kernel_rfl) Try.func4 (by kernel_rfl)
    (of_decide_eq_true (by kernel_rfl)) (by unfold Func.isWrapper; first | (rw [if_pos (by decide +kernel)]; kernel_rfl) | (rw [if_neg (by decide +kernel)]; exact ⟨rfl, rfl⟩))
    (fun os started H enc _ => lifted os started H enc)

end Go.Proofs.Ytcjhieknmblbbab.FnExactSorted
namespace Go.Proofs.Ytcjhieknmblbbab
theorem fnExactSorted_holds : Rows.FnExactSortedSaid := FnExactSorted.over
#print axioms fnExactSorted_holds
end Go.Proofs.Ytcjhieknmblbbab
