/-
  PROVED: at every label impl.LabelOk answers as spec.LabelOk, so the law laws.FnExactLabelOk returns true, whatever its argument. No condition.
-/
import Derived.Test.YtjdlnnejjggfgaaRows
import Derived.WalkKit
import Derived.ProofKit
import Derived.OpenShut
import Derived.ShutString
import Derived.ChangeOld
import Derived.Below
import Derived.WalkLawsBesides
import Derived.WalkSpells
import Derived.Test.YtjdlnnejjggfgaaLabT
namespace Go.Proofs.Ytjdlnnejjggfgaa.FnExactLabelOk
open Go.ChangeShapes Go.WideShapes Go.ChangeAt Go.RowKit
open Go.ChangeMaps (open_string shut_string)
set_option linter.unusedVariables false

open Go.Proofs.Ytjdlnnejjggfgaa.Labs Go.Proofs.Ytjdlnnejjggfgaa.Over

theorem walk (x : Lab) (w : World) (h1 : x.1.size ≤ maxLen) (h2 : x.2.size ≤ maxLen) :
    Calls Try.prog 5 #[.agg #[.string x.1, .string x.2]] w fun e w' => e = .returned (.bool true) ∧ Below w.heap.size w w' := by
  have H1 : Hid (x.1.size ≤ maxLen) := h1
  have H2 : Hid (x.2.size ≤ maxLen) := h2
  clear h1 h2
  have HA : ∀ o, Hid (Below w.heap.size w (w.alloc o)) := fun o => (Below.refl _ _).alloc (Nat.le_refl _) o
  go_enter Try.func5, Try.ntmps5
  go_wp2_with fail
  refine (szLab_any x _ _ H1.out H2.out (by omega) (by omega)).mono ?_
  rintro e w1 ⟨⟨n, rfl, -, -⟩, hb⟩
  have c0 : w1.cell? ⟨w.heap.size, 0, none⟩ = some (.string x.1) := by rw [hb.cell (by simp)]; simp
  have c1 : w1.cell? ⟨w.heap.size, 1, none⟩ = some (.string x.2) := by rw [hb.cell (by simp)]; simp
  have HB : Hid (Below w.heap.size w w1) := grow_on (HA _).out hb
  have kr : w.heap.size < w1.heap.size := by have := hb.size; simp at this; omega
  clear hb
  by_cases hn : n < 0
  · go_wp2
    go_ret
    exact ⟨rfl, HB.out⟩
  · go_wp2_with fail
    refine (toLab_any x _).mono ?_
    rintro e w2 ⟨rfl, hb⟩
    have d0 : w2.cell? ⟨w.heap.size, 0, none⟩ = some (.string x.1) := by rw [hb.cell kr]; exact c0
    have d1 : w2.cell? ⟨w.heap.size, 1, none⟩ = some (.string x.2) := by rw [hb.cell kr]; exact c1
    have HB2 : Hid (Below w.heap.size w w2) := grow_on HB.out hb
    have kr2 : w.heap.size < w2.heap.size := Nat.lt_of_lt_of_le kr hb.size
    clear hb c0 c1 kr
    go_wp2_with fail
    refine (specLab_any x _ H1.out H2.out).mono ?_
    rintro e w3 ⟨rfl, hb⟩
    have c0 : w3.cell? ⟨w.heap.size, 0, none⟩ = some (.string x.1) := by rw [hb.cell kr2]; exact d0
    have c1 : w3.cell? ⟨w.heap.size, 1, none⟩ = some (.string x.2) := by rw [hb.cell kr2]; exact d1
    have HB3 : Hid (Below w.heap.size w w3) := grow_on HB2.out hb
    clear hb d0 d1 kr2
    go_wp2_with fail
    refine (toLab_any x _).mono ?_
    rintro e w4 ⟨rfl, hb⟩
    have HB4 : Hid (Below w.heap.size w w4) := grow_on HB3.out hb
    clear hb c0 c1
    go_wp2_with fail
    refine (implLab_any x _ H1.out H2.out).mono ?_
    rintro e w5 ⟨rfl, hb⟩
    have HB5 : Hid (Below w.heap.size w w5) := grow_on HB4.out hb
    clear hb
    go_wp2
    go_ret
    exact ⟨rfl, HB5.out⟩
theorem own : ownKnob Try.prog.godebug = none := by kernel_rfl
theorem laidOut : laidOutB Try.prog = true := by kernel_rfl
set_option maxRecDepth 100000 in
theorem lifted (os : Os) (started : os.Started) (H : Type) (enc : TypeId × Value → H) :
    ReturnsInHanded {} Try.checked os 5 .any (Rows.fnExactLabelOkSpec.pre6 enc Try.prog Try.f5 Rows.fnExactLabelOkRow.domain false) (Rows.fnExactLabelOkSpec.post enc Try.prog Try.f5 false true false false) := by
  refine returnsInHanded_of_change (C := Try.checked) own started (by kernel_rfl) Try.func5
    (ChangeSpec.witness6 (enc := enc) (C := Try.checked) false ⟨#[], #[.agg #[.string ⟨#[]⟩, .string ⟨#[]⟩]], []⟩ 8 (by kernel_rfl) (by kernel_rfl) (by kernel_rfl) (by kernel_rfl)) ?_
  intro W base args ds gs before hval0 hW hcnd _
  have hval : ∀ (j : Nat) t v, Try.f5.params[j]? = some t → args[j]? = some v → Value.okWide Try.prog W .any base t v := hval0
  have hW' := hW
  obtain ⟨p, q, hA0, hV, rfl, hfz, hnd⟩ := hW
  have hA : DataW.TrodAll enc Try.prog W 0 (fun _ => true) true Try.f5.params.toList args.toList ds p := hA0
  rw [Try.params5] at hA hval
  obtain ⟨v0, vs0, d0, ds0, p0, q0, hargs, rfl, rfl, h0, r0⟩ := trodAll_cons hA
  obtain ⟨rfl, rfl, rfl⟩ := trodAll_nil r0
  obtain rfl : args = #[v0] := by cases args; simp_all
  obtain ⟨rfl, rfl⟩ := trodVars_none hV
  have k0 := h0
  have lt0 : ∀ x ∈ p0, x.block < W.heap.size := by obtain ⟨m, hm⟩ := k0; exact DataW.trod_lt m _ _ _ hm
  obtain ⟨a0, rfl, w0, u0⟩ := Go.Proofs.Ytjdlnnejjggfgaa.LabT.open_lab (hval 0 40 v0 rfl rfl) h0
  clear hA0 hval0
  refine (walk a0 W w0 u0).mono fun e W' ⟨he, bel⟩ => ?_
  subst he
  exact ⟨_, rfl, _, _, _, [], _, [], hW', trodAll_mk1 (shut_bool Try.underlying4 _), (trodAll_cons_mk (Below.trod laidOut (by kernel_rfl) (of_decide_eq_true (by kernel_rfl)) k0 bel lt0) trodAll_mk0), rfl, bel.frame _, fun h => by cases h⟩

theorem over : Rows.fnExactLabelOkRow.holds Try.pinned (OpenSpec.ofChange Rows.fnExactLabelOkSpec) :=
  OpenClaim.holds_of_wide 5 Try.f5 rfl rfl rfl rfl rfl rfl rfl ⟨rfl, rfl, rfl, rfl, rfl⟩ rfl rfl rfl rfl rfl (by kernel_rfl) Try.func5 (by kernel_rfl)
    (of_decide_eq_true (by kernel_rfl)) (by unfold Func.isWrapper; first | (rw [if_pos (by decide +kernel)]; kernel_rfl) | (rw [if_neg (by decide +kernel)]; exact ⟨rfl, rfl⟩))
    (fun os started H enc _ => lifted os started H enc)

end Go.Proofs.Ytjdlnnejjggfgaa.FnExactLabelOk
namespace Go.Proofs.Ytjdlnnejjggfgaa
theorem fnExactLabelOk_holds : Rows.FnExactLabelOkSaid := FnExactLabelOk.over
#print axioms fnExactLabelOk_holds
end Go.Proofs.Ytjdlnnejjggfgaa
