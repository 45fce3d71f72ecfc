/-
  PROVED: at every slice of parts impl.CountOf answers as spec.CountOf and leaves the parts as they were, so the law laws.FnExactCountOf returns true, whatever its argument. No condition.
-/
import Derived.Test.YtbccaioahifloabRows
import Derived.WalkKit
import Derived.ProofKit
import Derived.OpenShut
import Derived.ShutString
import Derived.ChangeOld
import Derived.Below
import Derived.WalkLawsBesides
import Derived.WalkSpells
import Derived.Test.YtbccaioahifloabQStsK
import Derived.Deep.RegionHeld3
namespace Go.Proofs.Ytbccaioahifloab.FnExactCountOf
open Go.ChangeShapes Go.WideShapes Go.ChangeAt Go.RowKit
open Go.ChangeMaps (open_string shut_string)
set_option linter.unusedVariables false

open Go.Proofs.Ytbccaioahifloab.Labs Go.Proofs.Ytbccaioahifloab.LabS Go.Proofs.Ytbccaioahifloab.Over Go.Proofs.Ytbccaioahifloab.Blk Go.Proofs.Ytbccaioahifloab.Alms Go.Proofs.Ytbccaioahifloab.Rws Go.Proofs.Ytbccaioahifloab.ChnC Go.Proofs.Ytbccaioahifloab.ChnK Go.Proofs.Ytbccaioahifloab.Chs Go.Proofs.Ytbccaioahifloab.Prt
open Go.Proofs.Ytbccaioahifloab.Alm (AlIn)
open Go.Proofs.Ytbccaioahifloab.LabT (held_reads)
open Go.Proofs.Ytbccaioahifloab.Sts
theorem rnT {lo : Nat} {w : World} {M c : Nat} {ps : List PRow} {S : List PPt} (h : PB lo w M c ps) (hp : pts ps = S) : RdS RdN w (some ⟨M, 0, none⟩) S := by have := h.rn; rwa [hp] at this
theorem rdT {lo : Nat} {w : World} {M c : Nat} {ps : List PRow} {S : List PPt} (h : PB lo w M c ps) (hp : pts ps = S) : RdS RdA w (some ⟨M, 0, none⟩) S := (rnT h hp).rd
set_option maxRecDepth 100000 in
set_option maxHeartbeats 4000000 in
theorem walk (a0 : Option Addr) (cap0 : Nat) (l0 : List PPt) (w : World) (r0 : RdS RdA w a0 l0) (m0 : l0.length ≤ maxLen) (z0 : FitsT l0) :
    Calls Try.prog 4 #[.slice a0 l0.length cap0] w fun e w' => e = .returned (.bool true) ∧ Below w.heap.size w w' := by
  have R0 : Hid (RdS RdA w a0 l0) := r0
  have M0 : Hid (l0.length ≤ maxLen) := m0
  have F0 : Hid (FitsT l0) := z0
  clear r0 m0 z0
  have B0 : Hid (Below w.heap.size w w) := Below.refl _ _
  go_enter Try.func4, Try.ntmps4
  go_wp2_with fail
  refine (szPS_any a0 cap0 l0 1048576 _ (R0.out.below stays_rd B0.out) M0.out F0.out (by omega) (by omega)).mono ?_
  rintro e w1 ⟨⟨k0, rfl, p0, hn⟩, hb⟩
  have B1 : Hid (Below w.heap.size w w1) := grow_on B0.out hb
  have Z1 : Hid (w.heap.size ≤ w1.heap.size) := hb.size
  clear hb
  by_cases g0 : k0 < 0
  · clear hn
    go_wp2
    go_ret
    exact ⟨rfl, B1.out⟩
  have K0 : Hid (l0.length ≤ 1048576 ∧ sumT l0 ≤ 1048576 ∧ l0.length + sumT l0 ≤ 1048576) := by have := hn (by omega); exact ⟨by omega, by omega, by omega⟩
  clear hn
  go_wp2_with fail
  refine (toPS_any a0 cap0 l0 _ (R0.out.below stays_rd B1.out) K0.out.1 K0.out.2.1).mono ?_
  rintro e w2 ⟨rfl, ⟨Sr, hA, hP, hO⟩, hb⟩
  have S_2 : Hid (PB w1.heap.size w2 w1.heap.size l0.length Sr) := (by first | exact hA | (have hA2 := hA.down (lo' := w1.heap.size) (by simp); simp at hA2; exact hA2))
  have SP : Hid (pts Sr = l0 ∧ Own8 Sr) := ⟨hP, hO⟩
  have U_S : Hid (w1.heap.size ≤ w1.heap.size ∧ w1.heap.size < w2.heap.size) := ⟨S_2.out.at', S_2.out.lt⟩
  clear hA hP hO
  have B2 : Hid (Below w.heap.size w w2) := grow_on B1.out hb
  have Z2 : Hid (w1.heap.size ≤ w2.heap.size) := hb.size
  clear hb
  go_wp2_with fail
  refine (StsK.specCount_any _ _ l0 _ (rdT S_2.out SP.out.1) K0.out.1 K0.out.2.1).mono ?_
  rintro e w3 ⟨rfl, hb⟩
  have B3 : Hid (Below w.heap.size w w3) := grow_on B2.out hb
  have Z3 : Hid (w2.heap.size ≤ w3.heap.size) := hb.size
  have S_3 : Hid (PB w1.heap.size w3 w1.heap.size l0.length Sr) := S_2.out.grow hb
  clear hb
  go_wp2_with fail
  refine (toPS_any a0 cap0 l0 _ (R0.out.below stays_rd B3.out) K0.out.1 K0.out.2.1).mono ?_
  rintro e w4 ⟨rfl, ⟨Xr, hA, hP, hO⟩, hb⟩
  have X_4 : Hid (PB w3.heap.size w4 w3.heap.size l0.length Xr) := (by first | exact hA | (have hA2 := hA.down (lo' := w3.heap.size) (by simp); simp at hA2; exact hA2))
  have XP : Hid (pts Xr = l0 ∧ Own8 Xr) := ⟨hP, hO⟩
  have U_X : Hid (w3.heap.size ≤ w3.heap.size ∧ w3.heap.size < w4.heap.size) := ⟨X_4.out.at', X_4.out.lt⟩
  clear hA hP hO
  have B4 : Hid (Below w.heap.size w w4) := grow_on B3.out hb
  have Z4 : Hid (w3.heap.size ≤ w4.heap.size) := hb.size
  clear hb
  go_wp2_with fail
  refine (StsK.implCount_any _ _ l0 _ (rdT X_4.out XP.out.1) K0.out.1 K0.out.2.1).mono ?_
  rintro e w5 ⟨rfl, hb⟩
  have B5 : Hid (Below w.heap.size w w5) := grow_on B4.out hb
  have Z5 : Hid (w4.heap.size ≤ w5.heap.size) := hb.size
  have X_5 : Hid (PB w3.heap.size w5 w3.heap.size l0.length Xr) := X_4.out.grow hb
  clear hb
  go_wp2_with fail
  refine (toPS_any a0 cap0 l0 _ (R0.out.below stays_rd B5.out) K0.out.1 K0.out.2.1).mono ?_
  rintro e w6 ⟨rfl, ⟨Er, hA, hP, hO⟩, hb⟩
  have E_6 : Hid (PB w5.heap.size w6 w5.heap.size l0.length Er) := (by first | exact hA | (have hA2 := hA.down (lo' := w5.heap.size) (by simp); simp at hA2; exact hA2))
  have EP : Hid (pts Er = l0 ∧ Own8 Er) := ⟨hP, hO⟩
  have U_E : Hid (w5.heap.size ≤ w5.heap.size ∧ w5.heap.size < w6.heap.size) := ⟨E_6.out.at', E_6.out.lt⟩
  clear hA hP hO
  have B6 : Hid (Below w.heap.size w w6) := grow_on B5.out hb
  have Z6 : Hid (w5.heap.size ≤ w6.heap.size) := hb.size
  have X_6 : Hid (PB w3.heap.size w6 w3.heap.size l0.length Xr) := X_5.out.grow hb
  clear hb
  go_wp2_with fail
  refine (eqPS_any _ _ _ _ l0 _ (rdT X_6.out XP.out.1) (rdT E_6.out EP.out.1) M0.out F0.out).mono ?_
  rintro e w7 ⟨rfl, hb⟩
  have B7 : Hid (Below w.heap.size w w7) := grow_on B6.out hb
  have Z7 : Hid (w6.heap.size ≤ w7.heap.size) := hb.size
  have X_7 : Hid (PB w3.heap.size w7 w3.heap.size l0.length Xr) := X_6.out.grow hb
  have E_7 : Hid (PB w5.heap.size w7 w5.heap.size l0.length Er) := E_6.out.grow hb
  clear hb
  go_wp2
  go_ret
  exact ⟨rfl, B7.out⟩
theorem own : ownKnob Try.prog.godebug = none := by kernel_rfl
theorem laidOut : laidOutB Try.prog = true := by kernel_rfl
set_option maxRecDepth 100000 in
theorem lifted (os : Os) (started : os.Started) (H : Type) (enc : TypeId × Value → H) :
    ReturnsInHanded {} Try.checked os 4 .any (Rows.fnExactCountOfSpec.pre6 enc Try.prog Try.f4 Rows.fnExactCountOfRow.domain false) (Rows.fnExactCountOfSpec.post enc Try.prog Try.f4 false true false false) := by
  refine returnsInHanded_of_change (C := Try.checked) own started (by kernel_rfl) Try.func4
    (ChangeSpec.witness6 (enc := enc) (C := Try.checked) false ⟨#[], #[.slice none 0 0], []⟩ 8 (by kernel_rfl) (by kernel_rfl) (by kernel_rfl) (by kernel_rfl)) ?_
  intro W base args ds gs before hval0 hW hcnd _
  have hval : ∀ (j : Nat) t v, Try.f4.params[j]? = some t → args[j]? = some v → Value.okWide Try.prog W .any base t v := hval0
  have hW' := hW
  obtain ⟨p, q, hA0, hV, rfl, hfz, hnd⟩ := hW
  have hA : DataW.TrodAll enc Try.prog W 0 (fun _ => true) true Try.f4.params.toList args.toList ds p := hA0
  rw [Try.params4] at hA hval
  obtain ⟨v0, vs0, d0, ds0, p0, q0, hargs, rfl, rfl, h0, r0⟩ := trodAll_cons hA
  obtain ⟨rfl, rfl, rfl⟩ := trodAll_nil r0
  obtain rfl : args = #[v0] := by cases args; simp_all
  obtain ⟨rfl, rfl⟩ := trodVars_none hV
  obtain ⟨a0, len0, cap0, rfl⟩ := okWide_slice Try.underlying22 (hval 0 22 v0 rfl rfl)
  have k0 := h0
  have lt0 : ∀ x ∈ p0, x.block < W.heap.size := by obtain ⟨m, hm⟩ := k0; exact DataW.trod_lt m _ _ _ hm
  obtain ⟨l0, rfl, w0, m0, f0⟩ := Go.Proofs.Ytbccaioahifloab.Sts.open_parts h0
  clear hA0 hval0
  refine (walk a0 cap0 l0 W w0 m0 f0).mono fun e W' ⟨he, bel⟩ => ?_
  subst he
  exact ⟨_, rfl, _, _, _, [], _, [], hW', trodAll_mk1 (shut_bool Try.underlying4 _), (trodAll_cons_mk (Below.trod laidOut (by kernel_rfl) (of_decide_eq_true (by kernel_rfl)) k0 bel lt0) trodAll_mk0), rfl, bel.frame _, fun h => by cases h⟩

theorem over : Rows.fnExactCountOfRow.holds Try.pinned (OpenSpec.ofChange Rows.fnExactCountOfSpec) :=
  OpenClaim.holds_of_wide 4 Try.f4 rfl rfl rfl rfl rfl rfl rfl ⟨rfl, rfl, rfl, rfl, rfl⟩ rfl rfl rfl rfl rfl (by kernel_rfl) Try.func4 (by kernel_rfl)
    (of_decide_eq_true (by kernel_rfl)) (by unfold Func.isWrapper; first | (rw [if_pos (by decide +kernel)]; kernel_rfl) | (rw [if_neg (by decide +kernel)]; exact ⟨rfl, rfl⟩))
    (fun os started H enc _ => lifted os started H enc)

end Go.Proofs.Ytbccaioahifloab.FnExactCountOf
namespace Go.Proofs.Ytbccaioahifloab
theorem fnExactCountOf_holds : Rows.FnExactCountOfSaid := FnExactCountOf.over
#print axioms fnExactCountOf_holds
end Go.Proofs.Ytbccaioahifloab
