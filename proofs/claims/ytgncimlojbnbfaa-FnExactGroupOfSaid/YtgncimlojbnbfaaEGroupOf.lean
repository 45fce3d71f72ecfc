/-
  PROVED: at every slice of groups and all labels impl.GroupOf answers as spec.GroupOf and leaves them as they were, so the law laws.FnExactGroupOf returns true, whatever its arguments. No condition.
-/
import Derived.Test.YtgncimlojbnbfaaRows
import Derived.WalkKit
import Derived.ProofKit
import Derived.OpenShut
import Derived.ShutString
import Derived.ChangeOld
import Derived.Below
import Derived.WalkLawsBesides
import Derived.WalkSpells
import Derived.Test.YtgncimlojbnbfaaGpIo
namespace Go.Proofs.Ytgncimlojbnbfaa.FnExactGroupOf
open Go.ChangeShapes Go.WideShapes Go.ChangeAt Go.RowKit
open Go.ChangeMaps (open_string shut_string)
set_option linter.unusedVariables false

open Go.Proofs.Ytgncimlojbnbfaa.Labs Go.Proofs.Ytgncimlojbnbfaa.LabS Go.Proofs.Ytgncimlojbnbfaa.Over Go.Proofs.Ytgncimlojbnbfaa.Blk Go.Proofs.Ytgncimlojbnbfaa.Alms Go.Proofs.Ytgncimlojbnbfaa.Rws Go.Proofs.Ytgncimlojbnbfaa.ChnC Go.Proofs.Ytgncimlojbnbfaa.ChnK Go.Proofs.Ytgncimlojbnbfaa.Grp Go.Proofs.Ytgncimlojbnbfaa.Gps Go.Proofs.Ytgncimlojbnbfaa.GpD
theorem rdG {lo : Nat} {w : World} {M c : Nat} {us : List GRow} {U : List PGr} (h : GsB lo w M c us) (hp : grs us = U) : RdGs GA w (some ⟨M, 0, none⟩) U := by have := h.rd; rwa [hp] at this
set_option maxRecDepth 100000 in
set_option maxHeartbeats 8000000 in
theorem walk (a0 : Option Addr) (cap0 : Nat) (l0 : List PGr) (a1 : Option Addr) (cap1 : Nat) (l1 : List Lab) (w : World) (r0 : RdGs GA w a0 l0) (m0 : l0.length ≤ maxLen) (f0 : FitsG l0) (r1 : Reads w a1 l1) (m1 : l1.length ≤ maxLen) (f1 : LabT.Fits l1) :
    Calls Try.prog 4 #[.slice a0 l0.length cap0, .slice a1 l1.length cap1] w fun e w' => e = .returned (.bool true) ∧ Below w.heap.size w w' := by
  have R0 : Hid (RdGs GA w a0 l0) := r0
  have M0 : Hid (l0.length ≤ maxLen) := m0
  have F0 : Hid (FitsG l0) := f0
  clear r0 m0 f0
  have R1 : Hid (Reads w a1 l1) := r1
  have M1 : Hid (l1.length ≤ maxLen) := m1
  have F1 : Hid (LabT.Fits l1) := f1
  clear r1 m1 f1
  have B0 : Hid (Below w.heap.size w w) := Below.refl _ _
  go_enter Try.func4, Try.ntmps4
  go_wp2_with fail
  refine (Gps.szGs_any a0 cap0 l0 1048576 _ (R0.out.below stays_ga B0.out) M0.out F0.out (by omega) (by omega)).mono ?_
  rintro e w1 ⟨⟨k0, rfl, p0, hn⟩, hb⟩
  have B1 : Hid (Below w.heap.size w w1) := grow_on B0.out hb
  clear hb
  by_cases g0 : k0 < 0
  · clear hn
    go_wp2
    go_ret
    exact ⟨rfl, B1.out⟩
  have K0 : Hid (l0.length ≤ 1048576 ∧ sumG l0 ≤ 1048576) := by have := hn (by omega); exact ⟨by omega, by omega⟩
  have S0 : Hid (∀ x ∈ l0, x.key.length ≤ 1048576 ∧ x.P.length ≤ 1048576 ∧ LenM x.P) := fun x hx => by
    have h1 := sumG_mem hx
    have h2 := K0.out.2
    unfold oneG at h1
    exact ⟨by omega, by omega, fun q hq => Nat.le_trans (sum_nth hq) (by omega)⟩
  clear hn
  go_wp2_with fail
  refine (LabT.sz_any a1 cap1 l1 k0 _ (R1.out.below B1.out) M1.out F1.out (by omega) (by omega)).mono ?_
  rintro e w2 ⟨⟨k1, rfl, p1, hn⟩, hb⟩
  have B2 : Hid (Below w.heap.size w w2) := grow_on B1.out hb
  clear hb
  by_cases g1 : k1 < 0
  · clear hn
    go_wp2
    go_ret
    exact ⟨rfl, B2.out⟩
  have K1 : Hid (l1.length ≤ 1048576) := by have := hn (by omega); show l1.length ≤ 1048576; omega
  clear hn
  go_wp2_with fail
  refine (Gps.toGs_any a0 cap0 l0 _ (R0.out.below stays_ga B2.out) K0.out.1 K0.out.2).mono ?_
  rintro e w3 ⟨rfl, ⟨S0xus, hg, hp, hc⟩, hb⟩
  have S0x_3 : Hid (GsB w2.heap.size w3 w2.heap.size l0.length S0xus) := hg
  have S0xP : Hid (grs S0xus = l0 ∧ CapsG S0xus) := ⟨hp, hc⟩
  clear hg hp hc
  have B3 : Hid (Below w.heap.size w w3) := grow_on B2.out hb
  clear hb
  go_wp2_with fail
  refine (Grp.toL_any a1 cap1 l1 _ (R1.out.below B3.out) K1.out).mono ?_
  rintro e w4 ⟨⟨S1xK, rfl, ho⟩, hb⟩
  have S1x_4 : Hid (OwnL w3.heap.size w4 S1xK l1) := ho
  clear ho
  have B4 : Hid (Below w.heap.size w w4) := grow_on B3.out hb
  have S0x_4 : Hid (GsB w2.heap.size w4 w2.heap.size l0.length S0xus) := S0x_3.out.grow hb
  clear hb
  go_wp2_with fail
  refine (GpOf.specOf_any _ _ _ _ l0 l1 _ (rdG S0x_4.out S0xP.out.1) S1x_4.out.rd K0.out.1 M1.out (fun x hx => by have := (S0.out x hx).1; unfold maxLen; omega)).mono ?_
  rintro e w5 ⟨rfl, hb⟩
  have B5 : Hid (Below w.heap.size w w5) := grow_on B4.out hb
  have S0x_5 : Hid (GsB w2.heap.size w5 w2.heap.size l0.length S0xus) := S0x_4.out.grow hb
  have S1x_5 : Hid (OwnL w3.heap.size w5 S1xK l1) := S1x_4.out.grow hb
  clear hb
  go_wp2_with fail
  refine (Gps.toGs_any a0 cap0 l0 _ (R0.out.below stays_ga B5.out) K0.out.1 K0.out.2).mono ?_
  rintro e w6 ⟨rfl, ⟨X0xus, hg, hp, hc⟩, hb⟩
  have X0x_6 : Hid (GsB w5.heap.size w6 w5.heap.size l0.length X0xus) := hg
  have X0xP : Hid (grs X0xus = l0 ∧ CapsG X0xus) := ⟨hp, hc⟩
  clear hg hp hc
  have B6 : Hid (Below w.heap.size w w6) := grow_on B5.out hb
  clear hb
  go_wp2_with fail
  refine (Grp.toL_any a1 cap1 l1 _ (R1.out.below B6.out) K1.out).mono ?_
  rintro e w7 ⟨⟨X1xK, rfl, ho⟩, hb⟩
  have X1x_7 : Hid (OwnL w6.heap.size w7 X1xK l1) := ho
  clear ho
  have B7 : Hid (Below w.heap.size w w7) := grow_on B6.out hb
  have X0x_7 : Hid (GsB w5.heap.size w7 w5.heap.size l0.length X0xus) := X0x_6.out.grow hb
  clear hb
  go_wp2_with fail
  refine (GpIo.implOf_any _ _ _ _ l0 l1 _ (rdG X0x_7.out X0xP.out.1) X1x_7.out.rd K0.out.1 M1.out (fun x hx => by have := (S0.out x hx).1; unfold maxLen; omega)).mono ?_
  rintro e w8 ⟨rfl, hb⟩
  have B8 : Hid (Below w.heap.size w w8) := grow_on B7.out hb
  have X0x_8 : Hid (GsB w5.heap.size w8 w5.heap.size l0.length X0xus) := X0x_7.out.grow hb
  have X1x_8 : Hid (OwnL w6.heap.size w8 X1xK l1) := X1x_7.out.grow hb
  clear hb
  go_wp2_with fail
  refine (Gps.toGs_any a0 cap0 l0 _ (R0.out.below stays_ga B8.out) K0.out.1 K0.out.2).mono ?_
  rintro e w9 ⟨rfl, ⟨E0xus, hg, hp, hc⟩, hb⟩
  have E0x_9 : Hid (GsB w8.heap.size w9 w8.heap.size l0.length E0xus) := hg
  have E0xP : Hid (grs E0xus = l0 ∧ CapsG E0xus) := ⟨hp, hc⟩
  clear hg hp hc
  have B9 : Hid (Below w.heap.size w w9) := grow_on B8.out hb
  have X0x_9 : Hid (GsB w5.heap.size w9 w5.heap.size l0.length X0xus) := X0x_8.out.grow hb
  have X1x_9 : Hid (OwnL w6.heap.size w9 X1xK l1) := X1x_8.out.grow hb
  clear hb
  go_wp2_with fail
  refine (Gps.eqGs_any _ _ _ _ l0 _ (rdG X0x_9.out X0xP.out.1) (rdG E0x_9.out E0xP.out.1) M0.out F0.out).mono ?_
  rintro e w10 ⟨rfl, hb⟩
  have B10 : Hid (Below w.heap.size w w10) := grow_on B9.out hb
  have X0x_10 : Hid (GsB w5.heap.size w10 w5.heap.size l0.length X0xus) := X0x_9.out.grow hb
  have X1x_10 : Hid (OwnL w6.heap.size w10 X1xK l1) := X1x_9.out.grow hb
  have E0x_10 : Hid (GsB w8.heap.size w10 w8.heap.size l0.length E0xus) := E0x_9.out.grow hb
  clear hb
  go_wp2_with fail
  refine (Grp.toL_any a1 cap1 l1 _ (R1.out.below B10.out) K1.out).mono ?_
  rintro e w11 ⟨⟨E1xK, rfl, ho⟩, hb⟩
  have E1x_11 : Hid (OwnL w10.heap.size w11 E1xK l1) := ho
  clear ho
  have B11 : Hid (Below w.heap.size w w11) := grow_on B10.out hb
  have X0x_11 : Hid (GsB w5.heap.size w11 w5.heap.size l0.length X0xus) := X0x_10.out.grow hb
  have X1x_11 : Hid (OwnL w6.heap.size w11 X1xK l1) := X1x_10.out.grow hb
  clear hb
  go_wp2_with fail
  refine (LabT.eq_any _ _ _ _ l1 l1 _ X1x_11.out.rd E1x_11.out.rd M1.out M1.out).mono ?_
  rintro e w12 ⟨rfl, hb⟩
  have B12 : Hid (Below w.heap.size w w12) := grow_on B11.out hb
  have X0x_12 : Hid (GsB w5.heap.size w12 w5.heap.size l0.length X0xus) := X0x_11.out.grow hb
  have X1x_12 : Hid (OwnL w6.heap.size w12 X1xK l1) := X1x_11.out.grow hb
  have E1x_12 : Hid (OwnL w10.heap.size w12 E1xK l1) := E1x_11.out.grow hb
  clear hb
  rw [show decide (l1 = l1) = true from decide_eq_true rfl]
  go_wp2
  go_ret
  exact ⟨rfl, B12.out⟩
theorem own : ownKnob Try.prog.godebug = none := by kernel_rfl
theorem laidOut : laidOutB Try.prog = true := by kernel_rfl
set_option maxRecDepth 100000 in
theorem lifted (os : Os) (started : os.Started) (H : Type) (enc : TypeId × Value → H) :
    ReturnsInHanded {} Try.checked os 4 .any (Rows.fnExactGroupOfSpec.pre6 enc Try.prog Try.f4 Rows.fnExactGroupOfRow.domain false) (Rows.fnExactGroupOfSpec.post enc Try.prog Try.f4 false true false false) := by
  refine returnsInHanded_of_change (C := Try.checked) own started (by kernel_rfl) Try.func4
    (ChangeSpec.witness6 (enc := enc) (C := Try.checked) false ⟨#[], #[.slice none 0 0, .slice none 0 0], []⟩ 8 (by kernel_rfl) (by kernel_rfl) (by kernel_rfl) (by kernel_rfl)) ?_
  intro W base args ds gs before hval0 hW hcnd _
  have hval : ∀ (j : Nat) t v, Try.f4.params[j]? = some t → args[j]? = some v → Value.okWide Try.prog W .any base t v := hval0
  have hW' := hW
  obtain ⟨p, q, hA0, hV, rfl, hfz, hnd⟩ := hW
  have hA : DataW.TrodAll enc Try.prog W 0 (fun _ => true) true Try.f4.params.toList args.toList ds p := hA0
  rw [Try.params4] at hA hval
  obtain ⟨v0, vs0, d0, ds0, p0, q0, hargs, rfl, rfl, h0, r0⟩ := trodAll_cons hA
  obtain ⟨v1, vs1, d1, ds1, p1, q1, rfl, rfl, rfl, h1, r1⟩ := trodAll_cons r0
  obtain ⟨rfl, rfl, rfl⟩ := trodAll_nil r1
  obtain rfl : args = #[v0, v1] := by cases args; simp_all
  obtain ⟨rfl, rfl⟩ := trodVars_none hV
  obtain ⟨a0, len0, cap0, rfl⟩ := okWide_slice Try.underlying22 (hval 0 22 v0 rfl rfl)
  have k0 := h0
  have lt0 : ∀ x ∈ p0, x.block < W.heap.size := by obtain ⟨m, hm⟩ := k0; exact DataW.trod_lt m _ _ _ hm
  obtain ⟨l0, rfl, w0, m0, f0⟩ := Go.Proofs.Ytgncimlojbnbfaa.Gps.open_groups h0
  obtain ⟨a1, len1, cap1, rfl⟩ := okWide_slice Try.underlying33 (hval 1 33 v1 rfl rfl)
  have k1 := h1
  have lt1 : ∀ x ∈ p1, x.block < W.heap.size := by obtain ⟨m, hm⟩ := k1; exact DataW.trod_lt m _ _ _ hm
  obtain ⟨l1, rfl, w1, m1, f1⟩ : ∃ l : List (ByteArray × ByteArray), len1 = l.length ∧ Go.Proofs.Ytgncimlojbnbfaa.LabS.Reads W a1 l ∧ l.length ≤ maxLen ∧ Go.Proofs.Ytgncimlojbnbfaa.LabT.Fits l := by
    obtain ⟨fuel, hf⟩ := h1
    exact Go.Proofs.Ytgncimlojbnbfaa.LabT.open_labs (by simpa [Value.cells] using hf)
  clear hA0 hval0
  refine (walk a0 cap0 l0 a1 cap1 l1 W w0 m0 f0 w1 m1 f1).mono fun e W' ⟨he, bel⟩ => ?_
  subst he
  exact ⟨_, rfl, _, _, _, [], _, [], hW', trodAll_mk1 (shut_bool Try.underlying4 _), (trodAll_cons_mk (Below.trod laidOut (by kernel_rfl) (of_decide_eq_true (by kernel_rfl)) k0 bel lt0) (trodAll_cons_mk (Below.trod laidOut (by kernel_rfl) (of_decide_eq_true (by kernel_rfl)) k1 bel lt1) trodAll_mk0)), rfl, bel.frame _, fun h => by cases h⟩

theorem over : Rows.fnExactGroupOfRow.holds Try.pinned (OpenSpec.ofChange Rows.fnExactGroupOfSpec) :=
  OpenClaim.holds_of_wide 4 Try.f4 rfl rfl rfl rfl rfl rfl rfl ⟨rfl, rfl, rfl, rfl, rfl⟩ rfl rfl rfl rfl rfl (by kernel_rfl) Try.func4 (by kernel_rfl)
    (of_decide_eq_true (by kernel_rfl)) (by unfold Func.isWrapper; first | (rw [if_pos (by decide +kernel)]; kernel_rfl) | (rw [if_neg (by decide +kernel)]; exact ⟨rfl, rfl⟩))
    (fun os started H enc _ => lifted os started H enc)

end Go.Proofs.Ytgncimlojbnbfaa.FnExactGroupOf
namespace Go.Proofs.Ytgncimlojbnbfaa
theorem fnExactGroupOf_holds : Rows.FnExactGroupOfSaid := FnExactGroupOf.over
#print axioms fnExactGroupOf_holds
end Go.Proofs.Ytgncimlojbnbfaa
