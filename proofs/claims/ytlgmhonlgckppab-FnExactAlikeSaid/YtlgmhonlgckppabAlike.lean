/-
  PROVED: at every two slices of labels impl.Alike answers as spec.Alike and leaves them as they were, so the law laws.FnExactAlike returns true, whatever its arguments. No condition.
-/
import Derived.Test.YtlgmhonlgckppabRows
import Derived.WalkKit
import Derived.ProofKit
import Derived.OpenShut
import Derived.ShutString
import Derived.ChangeOld
import Derived.Below
import Derived.WalkLawsBesides
import Derived.WalkSpells
import Derived.Test.YtlgmhonlgckppabLabT
import Derived.Test.YtlgmhonlgckppabAlik
namespace Go.Proofs.Ytlgmhonlgckppab.FnExactAlike
open Go.ChangeShapes Go.WideShapes Go.ChangeAt Go.RowKit
open Go.ChangeMaps (open_string shut_string)
set_option linter.unusedVariables false

open Go.Proofs.Ytlgmhonlgckppab.Labs Go.Proofs.Ytlgmhonlgckppab.LabS Go.Proofs.Ytlgmhonlgckppab.LabT Go.Proofs.Ytlgmhonlgckppab.Over Go.Proofs.Ytlgmhonlgckppab.Alik

set_option maxHeartbeats 800000 in
theorem walk (a0 : Option Addr) (cap0 : Nat) (l0 : List Lab) (a1 : Option Addr) (cap1 : Nat) (l1 : List Lab) (w : World) (r0 : Reads w a0 l0) (m0 : l0.length ≤ maxLen) (f0 : Fits l0) (r1 : Reads w a1 l1) (m1 : l1.length ≤ maxLen) (f1 : Fits l1) :
    Calls Try.prog 3 #[.slice a0 l0.length cap0, .slice a1 l1.length cap1] w fun e w' => e = .returned (.bool true) ∧ Below w.heap.size w w' := by
  have R0 : Hid (Reads w a0 l0) := r0
  have M0 : Hid (l0.length ≤ maxLen) := m0
  have F0 : Hid (Fits l0) := f0
  clear r0 m0 f0
  have R1 : Hid (Reads w a1 l1) := r1
  have M1 : Hid (l1.length ≤ maxLen) := m1
  have F1 : Hid (Fits l1) := f1
  clear r1 m1 f1
  have B0 : Hid (Below w.heap.size w w) := Below.refl _ _
  go_enter Try.func3, Try.ntmps3
  go_wp2_with fail
  refine (Go.Proofs.Ytlgmhonlgckppab.LabT.sz_any a0 cap0 l0 _ _ (R0.out.below B0.out) M0.out F0.out (by omega) (by omega)).mono ?_
  rintro e w1 ⟨⟨n0, rfl, p0, hn⟩, hb⟩
  have B1 : Hid (Below w.heap.size w w1) := grow_on B0.out hb
  clear hb
  by_cases g0 : n0 < 0
  · clear hn
    go_wp2
    go_ret
    exact ⟨rfl, B1.out⟩
  have K0 : Hid (l0.length ≤ 1048576) := by have := hn (by omega); show l0.length ≤ 1048576; omega
  clear hn
  go_wp2_with fail
  refine (Go.Proofs.Ytlgmhonlgckppab.LabT.sz_any a1 cap1 l1 n0 _ (R1.out.below B1.out) M1.out F1.out (by omega) (by omega)).mono ?_
  rintro e w2 ⟨⟨n1, rfl, p1, hn⟩, hb⟩
  have B2 : Hid (Below w.heap.size w w2) := grow_on B1.out hb
  clear hb
  by_cases g1 : n1 < 0
  · clear hn
    go_wp2
    go_ret
    exact ⟨rfl, B2.out⟩
  have K1 : Hid (l1.length ≤ 1048576) := by have := hn (by omega); show l1.length ≤ 1048576; omega
  clear hn
  go_wp2_with fail
  refine (Go.Proofs.Ytlgmhonlgckppab.LabT.to_any a0 cap0 l0 _ (R0.out.below B2.out) K0.out).mono ?_
  rintro e w3 ⟨rfl, ⟨cs, hk, -, hh⟩, hb⟩
  have B3 : Hid (Below w.heap.size w w3) := grow_on B2.out hb
  have S0_3 : Hid (Reads w3 (some ⟨w2.heap.size, 0, none⟩) l0) := held_reads hk hh
  clear hb hk hh
  go_wp2_with fail
  refine (Go.Proofs.Ytlgmhonlgckppab.LabT.to_any a1 cap1 l1 _ (R1.out.below B3.out) K1.out).mono ?_
  rintro e w4 ⟨rfl, ⟨cs, hk, -, hh⟩, hb⟩
  have B4 : Hid (Below w.heap.size w w4) := grow_on B3.out hb
  have S0_4 : Hid (Reads w4 (some ⟨w2.heap.size, 0, none⟩) l0) := S0_3.out.below hb
  have S1_4 : Hid (Reads w4 (some ⟨w3.heap.size, 0, none⟩) l1) := held_reads hk hh
  clear hb hk hh
  go_wp2_with fail
  refine (specAlike_any _ _ _ _ l0 l1 _ S0_4.out S1_4.out M0.out M1.out F0.out F1.out).mono ?_
  rintro e w5 ⟨rfl, hb⟩
  have B5 : Hid (Below w.heap.size w w5) := grow_on B4.out hb
  have S0_5 : Hid (Reads w5 (some ⟨w2.heap.size, 0, none⟩) l0) := S0_4.out.below hb
  have S1_5 : Hid (Reads w5 (some ⟨w3.heap.size, 0, none⟩) l1) := S1_4.out.below hb
  clear hb
  go_wp2_with fail
  refine (Go.Proofs.Ytlgmhonlgckppab.LabT.to_any a0 cap0 l0 _ (R0.out.below B5.out) K0.out).mono ?_
  rintro e w6 ⟨rfl, ⟨cs, hk, -, hh⟩, hb⟩
  have B6 : Hid (Below w.heap.size w w6) := grow_on B5.out hb
  have X0_6 : Hid (Reads w6 (some ⟨w5.heap.size, 0, none⟩) l0) := held_reads hk hh
  clear hb hk hh
  go_wp2_with fail
  refine (Go.Proofs.Ytlgmhonlgckppab.LabT.to_any a1 cap1 l1 _ (R1.out.below B6.out) K1.out).mono ?_
  rintro e w7 ⟨rfl, ⟨cs, hk, -, hh⟩, hb⟩
  have B7 : Hid (Below w.heap.size w w7) := grow_on B6.out hb
  have X0_7 : Hid (Reads w7 (some ⟨w5.heap.size, 0, none⟩) l0) := X0_6.out.below hb
  have X1_7 : Hid (Reads w7 (some ⟨w6.heap.size, 0, none⟩) l1) := held_reads hk hh
  clear hb hk hh
  go_wp2_with fail
  refine (implAlike_any _ _ _ _ l0 l1 _ X0_7.out X1_7.out M0.out M1.out F0.out F1.out).mono ?_
  rintro e w8 ⟨rfl, hb⟩
  have B8 : Hid (Below w.heap.size w w8) := grow_on B7.out hb
  have X0_8 : Hid (Reads w8 (some ⟨w5.heap.size, 0, none⟩) l0) := X0_7.out.below hb
  have X1_8 : Hid (Reads w8 (some ⟨w6.heap.size, 0, none⟩) l1) := X1_7.out.below hb
  clear hb
  go_wp2_with fail
  refine (Go.Proofs.Ytlgmhonlgckppab.LabT.to_any a0 cap0 l0 _ (R0.out.below B8.out) K0.out).mono ?_
  rintro e w9 ⟨rfl, ⟨cs, hk, -, hh⟩, hb⟩
  have B9 : Hid (Below w.heap.size w w9) := grow_on B8.out hb
  have X0_9 : Hid (Reads w9 (some ⟨w5.heap.size, 0, none⟩) l0) := X0_8.out.below hb
  have X1_9 : Hid (Reads w9 (some ⟨w6.heap.size, 0, none⟩) l1) := X1_8.out.below hb
  have Y_9 : Hid (Reads w9 (some ⟨w8.heap.size, 0, none⟩) l0) := held_reads hk hh
  clear hb hk hh
  go_wp2_with fail
  refine (Go.Proofs.Ytlgmhonlgckppab.LabT.eq_any _ _ _ _ l0 l0 _ X0_9.out Y_9.out M0.out M0.out).mono ?_
  rintro e w10 ⟨rfl, hb⟩
  have B10 : Hid (Below w.heap.size w w10) := grow_on B9.out hb
  have X0_10 : Hid (Reads w10 (some ⟨w5.heap.size, 0, none⟩) l0) := X0_9.out.below hb
  have X1_10 : Hid (Reads w10 (some ⟨w6.heap.size, 0, none⟩) l1) := X1_9.out.below hb
  have Y_10 : Hid (Reads w10 (some ⟨w8.heap.size, 0, none⟩) l0) := Y_9.out.below hb
  clear hb
  have e0 : decide (l0 = l0) = true := decide_eq_true rfl
  go_wp2_with fail
  refine (Go.Proofs.Ytlgmhonlgckppab.LabT.to_any a1 cap1 l1 _ (R1.out.below B10.out) K1.out).mono ?_
  rintro e w11 ⟨rfl, ⟨cs, hk, -, hh⟩, hb⟩
  have B11 : Hid (Below w.heap.size w w11) := grow_on B10.out hb
  have X1_11 : Hid (Reads w11 (some ⟨w6.heap.size, 0, none⟩) l1) := X1_10.out.below hb
  have Y_11 : Hid (Reads w11 (some ⟨w10.heap.size, 0, none⟩) l1) := held_reads hk hh
  clear hb hk hh
  go_wp2_with fail
  refine (Go.Proofs.Ytlgmhonlgckppab.LabT.eq_any _ _ _ _ l1 l1 _ X1_11.out Y_11.out M1.out M1.out).mono ?_
  rintro e w12 ⟨rfl, hb⟩
  have B12 : Hid (Below w.heap.size w w12) := grow_on B11.out hb
  have X1_12 : Hid (Reads w12 (some ⟨w6.heap.size, 0, none⟩) l1) := X1_11.out.below hb
  have Y_12 : Hid (Reads w12 (some ⟨w10.heap.size, 0, none⟩) l1) := Y_11.out.below hb
  clear hb
  have e1 : decide (l1 = l1) = true := decide_eq_true rfl
  go_wp2
  go_ret
  exact ⟨rfl, B12.out⟩
theorem own : ownKnob Try.prog.godebug = none := by kernel_rfl
theorem laidOut : laidOutB Try.prog = true := by kernel_rfl
set_option maxRecDepth 100000 in
theorem lifted (os : Os) (started : os.Started) (H : Type) (enc : TypeId × Value → H) :
    ReturnsInHanded {} Try.checked os 3 .any (Rows.fnExactAlikeSpec.pre6 enc Try.prog Try.f3 Rows.fnExactAlikeRow.domain false) (Rows.fnExactAlikeSpec.post enc Try.prog Try.f3 false true false false) := by
  refine returnsInHanded_of_change (C := Try.checked) own started (by kernel_rfl) Try.func3
    (ChangeSpec.witness6 (enc := enc) (C := Try.checked) false ⟨#[], #[.slice none 0 0, .slice none 0 0], []⟩ 8 (by kernel_rfl) (by kernel_rfl) (by kernel_rfl) (by kernel_rfl)) ?_
  intro W base args ds gs before hval0 hW hcnd _
  have hval : ∀ (j : Nat) t v, Try.f3.params[j]? = some t → args[j]? = some v → Value.okWide Try.prog W .any base t v := hval0
  have hW' := hW
  obtain ⟨p, q, hA0, hV, rfl, hfz, hnd⟩ := hW
  have hA : DataW.TrodAll enc Try.prog W 0 (fun _ => true) true Try.f3.params.toList args.toList ds p := hA0
  rw [Try.params3] at hA hval
  obtain ⟨v0, vs0, d0, ds0, p0, q0, hargs, rfl, rfl, h0, r0⟩ := trodAll_cons hA
  obtain ⟨v1, vs1, d1, ds1, p1, q1, rfl, rfl, rfl, h1, r1⟩ := trodAll_cons r0
  obtain ⟨rfl, rfl, rfl⟩ := trodAll_nil r1
  obtain rfl : args = #[v0, v1] := by cases args; simp_all
  obtain ⟨rfl, rfl⟩ := trodVars_none hV
  obtain ⟨a0, len0, cap0, rfl⟩ := okWide_slice Try.underlying22 (hval 0 22 v0 rfl rfl)
  have k0 := h0
  have lt0 : ∀ x ∈ p0, x.block < W.heap.size := by obtain ⟨m, hm⟩ := k0; exact DataW.trod_lt m _ _ _ hm
  obtain ⟨l0, rfl, w0, m0, f0⟩ : ∃ l : List (ByteArray × ByteArray), len0 = l.length ∧ Go.Proofs.Ytlgmhonlgckppab.LabS.Reads W a0 l ∧ l.length ≤ maxLen ∧ Go.Proofs.Ytlgmhonlgckppab.LabT.Fits l := by
    obtain ⟨fuel, hf⟩ := h0
    exact Go.Proofs.Ytlgmhonlgckppab.LabT.open_labs (by simpa [Value.cells] using hf)
  obtain ⟨a1, len1, cap1, rfl⟩ := okWide_slice Try.underlying22 (hval 1 22 v1 rfl rfl)
  have k1 := h1
  have lt1 : ∀ x ∈ p1, x.block < W.heap.size := by obtain ⟨m, hm⟩ := k1; exact DataW.trod_lt m _ _ _ hm
  obtain ⟨l1, rfl, w1, m1, f1⟩ : ∃ l : List (ByteArray × ByteArray), len1 = l.length ∧ Go.Proofs.Ytlgmhonlgckppab.LabS.Reads W a1 l ∧ l.length ≤ maxLen ∧ Go.Proofs.Ytlgmhonlgckppab.LabT.Fits l := by
    obtain ⟨fuel, hf⟩ := h1
    exact Go.Proofs.Ytlgmhonlgckppab.LabT.open_labs (by simpa [Value.cells] using hf)
  clear hA0 hval0
  refine (walk a0 cap0 l0 a1 cap1 l1 W w0 m0 f0 w1 m1 f1).mono fun e W' ⟨he, bel⟩ => ?_
  subst he
  exact ⟨_, rfl, _, _, _, [], _, [], hW', trodAll_mk1 (shut_bool Try.underlying4 _), (trodAll_cons_mk (Below.trod laidOut (by kernel_rfl) (of_decide_eq_true (by kernel_rfl)) k0 bel lt0) (trodAll_cons_mk (Below.trod laidOut (by kernel_rfl) (of_decide_eq_true (by kernel_rfl)) k1 bel lt1) trodAll_mk0)), rfl, bel.frame _, fun h => by cases h⟩

theorem over : Rows.fnExactAlikeRow.holds Try.pinned (OpenSpec.ofChange Rows.fnExactAlikeSpec) :=
  OpenClaim.holds_of_wide 3 Try.f3 rfl rfl rfl rfl rfl rfl rfl ⟨rfl, rfl, rfl, rfl, rfl⟩ rfl rfl rfl rfl rfl (by kernel_rfl) Try.func3 (by kernel_rfl)
    (of_decide_eq_true (by kernel_rfl)) (by unfold Func.isWrapper; first | (rw [if_pos (by decide +kernel)]; kernel_rfl) | (rw [if_neg (by decide +kernel)]; exact ⟨rfl, rfl⟩))
    (fun os started H enc _ => lifted os started H enc)

end Go.Proofs.Ytlgmhonlgckppab.FnExactAlike
namespace Go.Proofs.Ytlgmhonlgckppab
theorem fnExactAlike_holds : Rows.FnExactAlikeSaid := FnExactAlike.over
#print axioms fnExactAlike_holds
end Go.Proofs.Ytlgmhonlgckppab
