/-
  PROVED: at every slice of strings impl.ByOk answers as spec.ByOk and leaves it as it was, so the law laws.FnExactByOk returns true, whatever its argument. No condition.
-/
import Derived.Test.YtmachabgnbpeaaaRows
import Derived.WalkKit
import Derived.ProofKit
import Derived.OpenShut
import Derived.ShutString
import Derived.ChangeOld
import Derived.Below
import Derived.WalkLawsBesides
import Derived.WalkSpells
import Derived.Test.YtmachabgnbpeaaaByOk
namespace Go.Proofs.Ytmachabgnbpeaaa.FnExactByOk
open Go.ChangeShapes Go.WideShapes Go.ChangeAt Go.RowKit
open Go.ChangeMaps (open_string shut_string)
set_option linter.unusedVariables false

open Go.Proofs.Ytmachabgnbpeaaa.StrB Go.Proofs.Ytmachabgnbpeaaa.StrT Go.Proofs.Ytmachabgnbpeaaa.Over Go.Proofs.Ytmachabgnbpeaaa.Blk Go.Proofs.Ytmachabgnbpeaaa.ByOk

set_option maxHeartbeats 800000 in
theorem walk (a : Option Addr) (cap : Nat) (l : List ByteArray) (w : World) (r0 : Reads w a l) (m0 : l.length ≤ maxLen) (f0 : FitsS l) :
    Calls Try.prog 4 #[.slice a l.length cap] w fun e w' => e = .returned (.bool true) ∧ Below w.heap.size w w' := by
  have R : Hid (Reads w a l) := r0
  have M : Hid (l.length ≤ maxLen) := m0
  have F : Hid (FitsS l) := f0
  clear r0 m0 f0
  have B0 : Hid (Below w.heap.size w w) := Below.refl _ _
  go_enter Try.func4, Try.ntmps4
  go_wp2_with fail
  refine (sz_any a cap l _ _ R.out M.out F.out (by omega) (by omega)).mono ?_
  rintro e w1 ⟨⟨n, rfl, -, hn⟩, hb⟩
  have B1 : Hid (Below w.heap.size w w1) := grow_on B0.out hb
  clear hb
  by_cases g : n < 0
  · clear hn
    go_wp2
    go_ret
    exact ⟨rfl, B1.out⟩
  have K : Hid (l.length ≤ 1048576) := by have := hn (by omega); show l.length ≤ 1048576; omega
  clear hn
  go_wp2_with fail
  refine (to_any a cap l _ (R.out.below B1.out) K.out).mono ?_
  rintro e w2 ⟨rfl, ⟨cs2, hk, -, hh⟩, hb⟩
  have B2 : Hid (Below w.heap.size w w2) := grow_on B1.out hb
  have C2 : Hid (Reads w2 (some ⟨w1.heap.size, 0, none⟩) l) := heldS_reads hk hh
  clear hk hh hb
  go_wp2_with fail
  refine (specBy_any _ _ l _ C2.out M.out F.out).mono ?_
  rintro e w3 ⟨rfl, hb⟩
  have B3 : Hid (Below w.heap.size w w3) := grow_on B2.out hb
  clear hb
  go_wp2_with fail
  refine (to_any a cap l _ (R.out.below B3.out) K.out).mono ?_
  rintro e w4 ⟨rfl, ⟨cs4, hk, -, hh⟩, hb⟩
  have B4 : Hid (Below w.heap.size w w4) := grow_on B3.out hb
  have C4 : Hid (Reads w4 (some ⟨w3.heap.size, 0, none⟩) l) := heldS_reads hk hh
  clear hk hh hb
  go_wp2_with fail
  refine (implBy_any _ _ l _ C4.out M.out F.out).mono ?_
  rintro e w5 ⟨rfl, hb⟩
  have B5 : Hid (Below w.heap.size w w5) := grow_on B4.out hb
  have C5 : Hid (Reads w5 (some ⟨w3.heap.size, 0, none⟩) l) := C4.out.below hb
  clear hb
  go_wp2_with fail
  refine (to_any a cap l _ (R.out.below B5.out) K.out).mono ?_
  rintro e w6 ⟨rfl, ⟨cs6, hk, -, hh⟩, hb⟩
  have B6 : Hid (Below w.heap.size w w6) := grow_on B5.out hb
  have C6 : Hid (Reads w6 (some ⟨w3.heap.size, 0, none⟩) l) := C5.out.below hb
  have Y6 : Hid (Reads w6 (some ⟨w5.heap.size, 0, none⟩) l) := heldS_reads hk hh
  clear hk hh hb
  go_wp2_with fail
  refine (eq_any _ _ _ _ l _ C6.out Y6.out M.out).mono ?_
  rintro e w7 ⟨rfl, hb⟩
  have B7 : Hid (Below w.heap.size w w7) := grow_on B6.out hb
  clear hb
  go_wp2
  go_ret
  exact ⟨rfl, B7.out⟩
theorem own : ownKnob Try.prog.godebug = none := by kernel_rfl
theorem laidOut : laidOutB Try.prog = true := by kernel_rfl
set_option maxRecDepth 100000 in
theorem lifted (os : Os) (started : os.Started) (H : Type) (enc : TypeId × Value → H) :
    ReturnsInHanded {} Try.checked os 4 .any (Rows.fnExactByOkSpec.pre6 enc Try.prog Try.f4 Rows.fnExactByOkRow.domain false) (Rows.fnExactByOkSpec.post enc Try.prog Try.f4 false true false false) := by
  refine returnsInHanded_of_change (C := Try.checked) own started (by kernel_rfl) Try.func4
    (ChangeSpec.witness6 (enc := enc) (C := Try.checked) false ⟨#[], #[.slice none 0 0], []⟩ 8 (by kernel_rfl) (by kernel_rfl) (by kernel_rfl) (by kernel_rfl)) ?_
  intro W base args ds gs before hval0 hW hcnd _
  have hval : ∀ (j : Nat) t v, Try.f4.params[j]? = some t → args[j]? = some v → Value.okWide Try.prog W .any base t v := hval0
  have hW' := hW
  obtain ⟨p, q, hA0, hV, rfl, hfz, hnd⟩ := hW
  have hA : DataW.TrodAll enc Try.prog W 0 (fun _ => true) true Try.f4.params.toList args.toList ds p := hA0
  rw [Try.params4] at hA hval
  obtain ⟨v0, vs0, d0, ds0, p0, q0, hargs, rfl, rfl, h0, r0⟩ := trodAll_cons hA
  obtain ⟨rfl, rfl, rfl⟩ := trodAll_nil r0
  obtain rfl : args = #[v0] := by cases args; simp_all
  obtain ⟨rfl, rfl⟩ := trodVars_none hV
  obtain ⟨a0, len0, cap0, rfl⟩ := okWide_slice Try.underlying25 (hval 0 25 v0 rfl rfl)
  have k0 := h0
  have lt0 : ∀ x ∈ p0, x.block < W.heap.size := by obtain ⟨m, hm⟩ := k0; exact DataW.trod_lt m _ _ _ hm
  obtain ⟨l0, rfl, w0, m0, f0⟩ := Go.Proofs.Ytmachabgnbpeaaa.StrT.open_strs h0
  clear hA0 hval0
  refine (walk a0 cap0 l0 W w0 m0 f0).mono fun e W' ⟨he, bel⟩ => ?_
  subst he
  exact ⟨_, rfl, _, _, _, [], _, [], hW', trodAll_mk1 (shut_bool Try.underlying4 _), (trodAll_cons_mk (Below.trod laidOut (by kernel_rfl) (of_decide_eq_true (by kernel_rfl)) k0 bel lt0) trodAll_mk0), rfl, bel.frame _, fun h => by cases h⟩

theorem over : Rows.fnExactByOkRow.holds Try.pinned (OpenSpec.ofChange Rows.fnExactByOkSpec) :=
  OpenClaim.holds_of_wide 4 Try.f4 rfl rfl rfl rfl rfl rfl rfl ⟨rfl, rfl, rfl, rfl, rfl⟩ rfl rfl rfl rfl rfl (by kernel_rfl) Try.func4 (by kernel_rfl)
    (of_decide_eq_true (by kernel_rfl)) (by unfold Func.isWrapper; first | (rw [if_pos (by decide +kernel)]; kernel_rfl) | (rw [if_neg (by decide +kernel)]; exact ⟨rfl, rfl⟩))
    (fun os started H enc _ => lifted os started H enc)

end Go.Proofs.Ytmachabgnbpeaaa.FnExactByOk
namespace Go.Proofs.Ytmachabgnbpeaaa
theorem fnExactByOk_holds : Rows.FnExactByOkSaid := FnExactByOk.over
#print axioms fnExactByOk_holds
end Go.Proofs.Ytmachabgnbpeaaa
