/-
  PROVED: at every slice of labels impl.SetText answers as spec.SetText and leaves it as it was, so the law laws.FnExactSetText returns true, whatever its arguments. No condition.
-/
import Derived.Test.YtlgmhonlgckppaaRows
import Derived.WalkKit
import Derived.ProofKit
import Derived.OpenShut
import Derived.ShutString
import Derived.ChangeOld
import Derived.Below
import Derived.WalkLawsBesides
import Derived.WalkSpells
import Derived.Test.YtlgmhonlgckppaaLabT
import Derived.Test.YtlgmhonlgckppaaTextI
namespace Go.Proofs.Ytlgmhonlgckppaa.FnExactSetText
open Go.ChangeShapes Go.WideShapes Go.ChangeAt Go.RowKit
open Go.ChangeMaps (open_string shut_string)
set_option linter.unusedVariables false

open Go.Proofs.Ytlgmhonlgckppaa.Labs Go.Proofs.Ytlgmhonlgckppaa.LabS Go.Proofs.Ytlgmhonlgckppaa.LabT Go.Proofs.Ytlgmhonlgckppaa.Over
open Go.Proofs.Ytlgmhonlgckppaa.TextI
open Go.Proofs.Ytlgmhonlgckppaa.TextS (specText_any)

set_option maxHeartbeats 800000 in
theorem walk (a0 : Option Addr) (cap0 : Nat) (l0 : List Lab) (w : World) (r0 : Reads w a0 l0) (m0 : l0.length ≤ maxLen) (f0 : Fits l0) :
    Calls Try.prog 4 #[.slice a0 l0.length cap0] w fun e w' => e = .returned (.bool true) ∧ Below w.heap.size w w' := by
  have R0 : Hid (Reads w a0 l0) := r0
  have M0 : Hid (l0.length ≤ maxLen) := m0
  have F0 : Hid (Fits l0) := f0
  clear r0 m0 f0
  have B0 : Hid (Below w.heap.size w w) := Below.refl _ _
  go_enter Try.func4, Try.ntmps4
  go_wp2_with fail
  refine (Go.Proofs.Ytlgmhonlgckppaa.LabT.sz_any a0 cap0 l0 _ _ (R0.out.below B0.out) M0.out F0.out (by omega) (by omega)).mono ?_
  rintro e w1 ⟨⟨n0, rfl, p0, hn⟩, hb⟩
  have B1 : Hid (Below w.heap.size w w1) := grow_on B0.out hb
  clear hb
  by_cases g0 : n0 < 0
  · clear hn
    go_wp2
    go_ret
    exact ⟨rfl, B1.out⟩
  have K0 : Hid (l0.length ≤ 1048576) := by have := hn (by omega); show l0.length ≤ 1048576; omega
  clear hn
  go_wp2_with fail
  refine (Go.Proofs.Ytlgmhonlgckppaa.LabT.to_any a0 cap0 l0 _ (R0.out.below B1.out) K0.out).mono ?_
  rintro e w2 ⟨rfl, ⟨cs, hk, -, hh⟩, hb⟩
  have B2 : Hid (Below w.heap.size w w2) := grow_on B1.out hb
  have S0_2 : Hid (Reads w2 (some ⟨w1.heap.size, 0, none⟩) l0) := held_reads hk hh
  clear hb hk hh
  go_wp2_with fail
  refine (specText_any _ _ l0 _ S0_2.out M0.out F0.out).mono ?_
  rintro e w3 ⟨rfl, hb⟩
  have B3 : Hid (Below w.heap.size w w3) := grow_on B2.out hb
  have S0_3 : Hid (Reads w3 (some ⟨w1.heap.size, 0, none⟩) l0) := S0_2.out.below hb
  clear hb
  go_wp2_with fail
  refine (Go.Proofs.Ytlgmhonlgckppaa.LabT.to_any a0 cap0 l0 _ (R0.out.below B3.out) K0.out).mono ?_
  rintro e w4 ⟨rfl, ⟨cs, hk, -, hh⟩, hb⟩
  have B4 : Hid (Below w.heap.size w w4) := grow_on B3.out hb
  have X0_4 : Hid (Reads w4 (some ⟨w3.heap.size, 0, none⟩) l0) := held_reads hk hh
  clear hb hk hh
  go_wp2_with fail
  refine (implText_any _ _ l0 _ X0_4.out M0.out F0.out).mono ?_
  rintro e w5 ⟨rfl, hb⟩
  have B5 : Hid (Below w.heap.size w w5) := grow_on B4.out hb
  have X0_5 : Hid (Reads w5 (some ⟨w3.heap.size, 0, none⟩) l0) := X0_4.out.below hb
  clear hb
  go_wp2_with fail
  refine (Go.Proofs.Ytlgmhonlgckppaa.LabT.to_any a0 cap0 l0 _ (R0.out.below B5.out) K0.out).mono ?_
  rintro e w6 ⟨rfl, ⟨cs, hk, -, hh⟩, hb⟩
  have B6 : Hid (Below w.heap.size w w6) := grow_on B5.out hb
  have X0_6 : Hid (Reads w6 (some ⟨w3.heap.size, 0, none⟩) l0) := X0_5.out.below hb
  have Y_6 : Hid (Reads w6 (some ⟨w5.heap.size, 0, none⟩) l0) := held_reads hk hh
  clear hb hk hh
  go_wp2_with fail
  refine (Go.Proofs.Ytlgmhonlgckppaa.LabT.eq_any _ _ _ _ l0 l0 _ X0_6.out Y_6.out M0.out M0.out).mono ?_
  rintro e w7 ⟨rfl, hb⟩
  have B7 : Hid (Below w.heap.size w w7) := grow_on B6.out hb
  have X0_7 : Hid (Reads w7 (some ⟨w3.heap.size, 0, none⟩) l0) := X0_6.out.below hb
  have Y_7 : Hid (Reads w7 (some ⟨w5.heap.size, 0, none⟩) l0) := Y_6.out.below hb
  clear hb
  have e0 : decide (l0 = l0) = true := decide_eq_true rfl
  go_wp2
  go_ret
  exact ⟨rfl, B7.out⟩
theorem own : ownKnob Try.prog.godebug = none := by kernel_rfl
theorem laidOut : laidOutB Try.prog = true := by kernel_rfl
set_option maxRecDepth 100000 in
theorem lifted (os : Os) (started : os.Started) (H : Type) (enc : TypeId × Value → H) :
    ReturnsInHanded {} Try.checked os 4 .any (Rows.fnExactSetTextSpec.pre6 enc Try.prog Try.f4 Rows.fnExactSetTextRow.domain false) (Rows.fnExactSetTextSpec.post enc Try.prog Try.f4 false true false false) := by
  refine returnsInHanded_of_change (C := Try.checked) own started (by kernel_rfl) Try.func4
    (ChangeSpec.witness6 (enc := enc) (C := Try.checked) false ⟨#[], #[.slice none 0 0], []⟩ 8 (by kernel_rfl) (by kernel_rfl) (by kernel_rfl) (by kernel_rfl)) ?_
  intro W base args ds gs before hval0 hW hcnd _
  have hval : ∀ (j : Nat) t v, Try.f4.params[j]? = some t → args[j]? = some v → Value.okWide Try.prog W .any base t v := hval0
  have hW' := hW
  obtain ⟨p, q, hA0, hV, rfl, hfz, hnd⟩ := hW
  have hA : DataW.TrodAll enc Try.prog W 0 (fun _ => true) true Try.f4.params.toList args.toList ds p := hA0
  rw [Try.params4] at hA hval
  obtain ⟨v0, vs0, d0, ds0, p0, q0, hargs, rfl, rfl, h0, r0⟩ := trodAll_cons hA
  obtain ⟨rfl, rfl, rfl⟩ := trodAll_nil r0
  obtain rfl : args = #[v0] := by cases args; simp_all
  obtain ⟨rfl, rfl⟩ := trodVars_none hV
  obtain ⟨a0, len0, cap0, rfl⟩ := okWide_slice Try.underlying39 (hval 0 39 v0 rfl rfl)
  have k0 := h0
  have lt0 : ∀ x ∈ p0, x.block < W.heap.size := by obtain ⟨m, hm⟩ := k0; exact DataW.trod_lt m _ _ _ hm
  obtain ⟨l0, rfl, w0, m0, f0⟩ : ∃ l : List (ByteArray × ByteArray), len0 = l.length ∧ Go.Proofs.Ytlgmhonlgckppaa.LabS.Reads W a0 l ∧ l.length ≤ maxLen ∧ Go.Proofs.Ytlgmhonlgckppaa.LabT.Fits l := by
    obtain ⟨fuel, hf⟩ := h0
    exact Go.Proofs.Ytlgmhonlgckppaa.LabT.open_labs (by simpa [Value.cells] using hf)
  clear hA0 hval0
  refine (walk a0 cap0 l0 W w0 m0 f0).mono fun e W' ⟨he, bel⟩ => ?_
  subst he
  exact ⟨_, rfl, _, _, _, [], _, [], hW', trodAll_mk1 (shut_bool Try.underlying4 _), (trodAll_cons_mk (Below.trod laidOut (by kernel_rfl) (of_decide_eq_true (by kernel_rfl)) k0 bel lt0) trodAll_mk0), rfl, bel.frame _, fun h => by cases h⟩

theorem over : Rows.fnExactSetTextRow.holds Try.pinned (OpenSpec.ofChange Rows.fnExactSetTextSpec) :=
  OpenClaim.holds_of_wide 4 Try.f4 rfl rfl rfl rfl rfl rfl rfl ⟨rfl, rfl, rfl, rfl, rfl⟩ rfl rfl rfl rfl rfl (by kernel_rfl) Try.func4 (by kernel_rfl)
    (of_decide_eq_true (by kernel_rfl)) (by unfold Func.isWrapper; first | (rw [if_pos (by decide +kernel)]; kernel_rfl) | (rw [if_neg (by decide +kernel)]; exact ⟨rfl, rfl⟩))
    (fun os started H enc _ => lifted os started H enc)

end Go.Proofs.Ytlgmhonlgckppaa.FnExactSetText
namespace Go.Proofs.Ytlgmhonlgckppaa
theorem fnExactSetText_holds : Rows.FnExactSetTextSaid := FnExactSetText.over
#print axioms fnExactSetText_holds
end Go.Proofs.Ytlgmhonlgckppaa
