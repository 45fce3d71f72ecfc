/-
  PROVED: at every slice of parts and every slice of labels impl.HomeOf answers as spec.HomeOf and leaves them as they were, so the law laws.FnExactHomeOf returns true, whatever its arguments. No condition.
-/
import Derived.Test.YtbccaioahifloaaRows
import Derived.WalkKit
import Derived.ProofKit
import Derived.OpenShut
import Derived.ShutString
import Derived.ChangeOld
import Derived.Below
import Derived.WalkLawsBesides
import Derived.WalkSpells
import Derived.Test.YtbccaioahifloaaQStsH
import Derived.Deep.RegionHeld3
namespace Go.Proofs.Ytbccaioahifloaa.FnExactHomeOf
open Go.ChangeShapes Go.WideShapes Go.ChangeAt Go.RowKit
open Go.ChangeMaps (open_string shut_string)
set_option linter.unusedVariables false

open Go.Proofs.Ytbccaioahifloaa.Labs Go.Proofs.Ytbccaioahifloaa.LabS Go.Proofs.Ytbccaioahifloaa.Over Go.Proofs.Ytbccaioahifloaa.Blk Go.Proofs.Ytbccaioahifloaa.Alms Go.Proofs.Ytbccaioahifloaa.Rws Go.Proofs.Ytbccaioahifloaa.ChnC Go.Proofs.Ytbccaioahifloaa.ChnK Go.Proofs.Ytbccaioahifloaa.Chs Go.Proofs.Ytbccaioahifloaa.Prt
open Go.Proofs.Ytbccaioahifloaa.Alm (AlIn)
open Go.Proofs.Ytbccaioahifloaa.LabT (held_reads)
open Go.Proofs.Ytbccaioahifloaa.Sts
theorem rnT {lo : Nat} {w : World} {M c : Nat} {ps : List PRow} {S : List PPt} (h : PB lo w M c ps) (hp : pts ps = S) : RdS RdN w (some ⟨M, 0, none⟩) S := by have := h.rn; rwa [hp] at this
theorem rdT {lo : Nat} {w : World} {M c : Nat} {ps : List PRow} {S : List PPt} (h : PB lo w M c ps) (hp : pts ps = S) : RdS RdA w (some ⟨M, 0, none⟩) S := (rnT h hp).rd
set_option maxRecDepth 100000 in
set_option maxHeartbeats 4000000 in
theorem walk (a0 : Option Addr) (cap0 : Nat) (l0 : List PPt) (a1 : Option Addr) (cap1 : Nat) (l1 : List Lab) (w : World) (r0 : RdS RdA w a0 l0) (m0 : l0.length ≤ maxLen) (z0 : FitsT l0) (r1 : Reads w a1 l1) (m1 : l1.length ≤ maxLen) (z1 : LabT.Fits l1) :
    Calls Try.prog 5 #[.slice a0 l0.length cap0, .slice a1 l1.length cap1] w fun e w' => e = .returned (.bool true) ∧ Below w.heap.size w w' := by
  have R0 : Hid (RdS RdA w a0 l0) := r0
  have M0 : Hid (l0.length ≤ maxLen) := m0
  have F0 : Hid (FitsT l0) := z0
  clear r0 m0 z0
  have R1 : Hid (Reads w a1 l1) := r1
  have M1 : Hid (l1.length ≤ maxLen) := m1
  have F1 : Hid (LabT.Fits l1) := z1
  clear r1 m1 z1
  have B0 : Hid (Below w.heap.size w w) := Below.refl _ _
  go_enter Try.func5, Try.ntmps5
  go_wp2_with fail
  refine (szPS_any a0 cap0 l0 1048576 _ (R0.out.below stays_rd B0.out) M0.out F0.out (by omega) (by omega)).mono ?_
  rintro e w1 ⟨⟨k0, rfl, p0, hn⟩, hb⟩
  have B1 : Hid (Below w.heap.size w w1) := grow_on B0.out hb
  have Z1 : Hid (w.heap.size ≤ w1.heap.size) := hb.size
  clear hb
  by_cases g0 : k0 < 0
  · clear hn
    go_wp2
    go_ret
    exact ⟨rfl, B1.out⟩
  have K0 : Hid (l0.length ≤ 1048576 ∧ sumT l0 ≤ 1048576 ∧ l0.length + sumT l0 ≤ 1048576) := by have := hn (by omega); exact ⟨by omega, by omega, by omega⟩
  clear hn
  go_wp2_with fail
  refine (LabT.sz_any a1 cap1 l1 k0 _ (R1.out.below B1.out) M1.out F1.out (by omega) (by omega)).mono ?_
  rintro e w2 ⟨⟨k1, rfl, p1, hn⟩, hb⟩
  have B2 : Hid (Below w.heap.size w w2) := grow_on B1.out hb
  have Z2 : Hid (w1.heap.size ≤ w2.heap.size) := hb.size
  clear hb
  by_cases g1 : k1 < 0
  · clear hn
    go_wp2
    go_ret
    exact ⟨rfl, B2.out⟩
  have K1 : Hid (l1.length ≤ 1048576) := by have := hn (by omega); show l1.length ≤ 1048576; omega
  clear hn
  go_wp2_with fail
  refine (toPS_any a0 cap0 l0 _ (R0.out.below stays_rd B2.out) K0.out.1 K0.out.2.1).mono ?_
  rintro e w3 ⟨rfl, ⟨Sr, hA, hP, hO⟩, hb⟩
  have S_3 : Hid (PB w2.heap.size w3 w2.heap.size l0.length Sr) := (by first | exact hA | (have hA2 := hA.down (lo' := w2.heap.size) (by simp); simp at hA2; exact hA2))
  have SP : Hid (pts Sr = l0 ∧ Own8 Sr) := ⟨hP, hO⟩
  have U_S : Hid (w2.heap.size ≤ w2.heap.size ∧ w2.heap.size < w3.heap.size) := ⟨S_3.out.at', S_3.out.lt⟩
  clear hA hP hO
  have B3 : Hid (Below w.heap.size w w3) := grow_on B2.out hb
  have Z3 : Hid (w2.heap.size ≤ w3.heap.size) := hb.size
  clear hb
  go_wp2_with fail
  refine (LabT.to_any a1 cap1 l1 _ (R1.out.below B3.out) K1.out).mono ?_
  rintro e w4 ⟨rfl, ⟨Tcs, hk, hs, hh⟩, hb⟩
  have T_4 : Hid (Blk w4 w3.heap.size Tcs 67) := (by first | exact hk | (have hk2 := hk; simp at hk2; exact hk2))
  have Ts : Hid (Tcs.size = l1.length * 2) := hs
  have Th : Hid (LabT.Held Tcs l1 l1.length) := hh
  have U_T : Hid (w3.heap.size ≤ w3.heap.size ∧ w3.heap.size < w4.heap.size) := ⟨by omega, T_4.out.lt⟩
  clear hk hs hh
  have B4 : Hid (Below w.heap.size w w4) := grow_on B3.out hb
  have Z4 : Hid (w3.heap.size ≤ w4.heap.size) := hb.size
  have S_4 : Hid (PB w2.heap.size w4 w2.heap.size l0.length Sr) := S_3.out.grow hb
  clear hb
  go_wp2_with fail
  refine (StsH.specHome_any _ _ l0.length _ _ l1 _ (held_reads T_4.out Th.out) M0.out M1.out F1.out).mono ?_
  rintro e w5 ⟨rfl, hb⟩
  have B5 : Hid (Below w.heap.size w w5) := grow_on B4.out hb
  have Z5 : Hid (w4.heap.size ≤ w5.heap.size) := hb.size
  have S_5 : Hid (PB w2.heap.size w5 w2.heap.size l0.length Sr) := S_4.out.grow hb
  have T_5 : Hid (Blk w5 w3.heap.size Tcs 67) := T_4.out.grow hb
  clear hb
  go_wp2_with fail
  refine (toPS_any a0 cap0 l0 _ (R0.out.below stays_rd B5.out) K0.out.1 K0.out.2.1).mono ?_
  rintro e w6 ⟨rfl, ⟨Xr, hA, hP, hO⟩, hb⟩
  have X_6 : Hid (PB w5.heap.size w6 w5.heap.size l0.length Xr) := (by first | exact hA | (have hA2 := hA.down (lo' := w5.heap.size) (by simp); simp at hA2; exact hA2))
  have XP : Hid (pts Xr = l0 ∧ Own8 Xr) := ⟨hP, hO⟩
  have U_X : Hid (w5.heap.size ≤ w5.heap.size ∧ w5.heap.size < w6.heap.size) := ⟨X_6.out.at', X_6.out.lt⟩
  clear hA hP hO
  have B6 : Hid (Below w.heap.size w w6) := grow_on B5.out hb
  have Z6 : Hid (w5.heap.size ≤ w6.heap.size) := hb.size
  clear hb
  go_wp2_with fail
  refine (LabT.to_any a1 cap1 l1 _ (R1.out.below B6.out) K1.out).mono ?_
  rintro e w7 ⟨rfl, ⟨Ycs, hk, hs, hh⟩, hb⟩
  have Y_7 : Hid (Blk w7 w6.heap.size Ycs 67) := (by first | exact hk | (have hk2 := hk; simp at hk2; exact hk2))
  have Ys : Hid (Ycs.size = l1.length * 2) := hs
  have Yh : Hid (LabT.Held Ycs l1 l1.length) := hh
  have U_Y : Hid (w6.heap.size ≤ w6.heap.size ∧ w6.heap.size < w7.heap.size) := ⟨by omega, Y_7.out.lt⟩
  clear hk hs hh
  have B7 : Hid (Below w.heap.size w w7) := grow_on B6.out hb
  have Z7 : Hid (w6.heap.size ≤ w7.heap.size) := hb.size
  have X_7 : Hid (PB w5.heap.size w7 w5.heap.size l0.length Xr) := X_6.out.grow hb
  clear hb
  go_wp2_with fail
  refine (StsH.implHome_any _ _ l0.length _ _ l1 _ (held_reads Y_7.out Yh.out) M0.out M1.out F1.out).mono ?_
  rintro e w8 ⟨rfl, hb⟩
  have B8 : Hid (Below w.heap.size w w8) := grow_on B7.out hb
  have Z8 : Hid (w7.heap.size ≤ w8.heap.size) := hb.size
  have X_8 : Hid (PB w5.heap.size w8 w5.heap.size l0.length Xr) := X_7.out.grow hb
  have Y_8 : Hid (Blk w8 w6.heap.size Ycs 67) := Y_7.out.grow hb
  clear hb
  go_wp2_with fail
  refine (toPS_any a0 cap0 l0 _ (R0.out.below stays_rd B8.out) K0.out.1 K0.out.2.1).mono ?_
  rintro e w9 ⟨rfl, ⟨Er, hA, hP, hO⟩, hb⟩
  have E_9 : Hid (PB w8.heap.size w9 w8.heap.size l0.length Er) := (by first | exact hA | (have hA2 := hA.down (lo' := w8.heap.size) (by simp); simp at hA2; exact hA2))
  have EP : Hid (pts Er = l0 ∧ Own8 Er) := ⟨hP, hO⟩
  have U_E : Hid (w8.heap.size ≤ w8.heap.size ∧ w8.heap.size < w9.heap.size) := ⟨E_9.out.at', E_9.out.lt⟩
  clear hA hP hO
  have B9 : Hid (Below w.heap.size w w9) := grow_on B8.out hb
  have Z9 : Hid (w8.heap.size ≤ w9.heap.size) := hb.size
  have X_9 : Hid (PB w5.heap.size w9 w5.heap.size l0.length Xr) := X_8.out.grow hb
  have Y_9 : Hid (Blk w9 w6.heap.size Ycs 67) := Y_8.out.grow hb
  clear hb
  go_wp2_with fail
  refine (eqPS_any _ _ _ _ l0 _ (rdT X_9.out XP.out.1) (rdT E_9.out EP.out.1) M0.out F0.out).mono ?_
  rintro e w10 ⟨rfl, hb⟩
  have B10 : Hid (Below w.heap.size w w10) := grow_on B9.out hb
  have Z10 : Hid (w9.heap.size ≤ w10.heap.size) := hb.size
  have X_10 : Hid (PB w5.heap.size w10 w5.heap.size l0.length Xr) := X_9.out.grow hb
  have Y_10 : Hid (Blk w10 w6.heap.size Ycs 67) := Y_9.out.grow hb
  have E_10 : Hid (PB w8.heap.size w10 w8.heap.size l0.length Er) := E_9.out.grow hb
  clear hb
  go_wp2_with fail
  refine (LabT.to_any a1 cap1 l1 _ (R1.out.below B10.out) K1.out).mono ?_
  rintro e w11 ⟨rfl, ⟨Dcs, hk, hs, hh⟩, hb⟩
  have D_11 : Hid (Blk w11 w10.heap.size Dcs 67) := (by first | exact hk | (have hk2 := hk; simp at hk2; exact hk2))
  have Ds : Hid (Dcs.size = l1.length * 2) := hs
  have Dh : Hid (LabT.Held Dcs l1 l1.length) := hh
  have U_D : Hid (w10.heap.size ≤ w10.heap.size ∧ w10.heap.size < w11.heap.size) := ⟨by omega, D_11.out.lt⟩
  clear hk hs hh
  have B11 : Hid (Below w.heap.size w w11) := grow_on B10.out hb
  have Z11 : Hid (w10.heap.size ≤ w11.heap.size) := hb.size
  have X_11 : Hid (PB w5.heap.size w11 w5.heap.size l0.length Xr) := X_10.out.grow hb
  have Y_11 : Hid (Blk w11 w6.heap.size Ycs 67) := Y_10.out.grow hb
  clear hb
  have eL1 : decide (l1 = l1) = true := decide_eq_true rfl
  go_wp2_with fail
  refine (LabT.eq_any _ _ _ _ l1 l1 _ (held_reads Y_11.out Yh.out) (held_reads D_11.out Dh.out) M1.out M1.out).mono ?_
  rintro e w12 ⟨rfl, hb⟩
  have B12 : Hid (Below w.heap.size w w12) := grow_on B11.out hb
  have Z12 : Hid (w11.heap.size ≤ w12.heap.size) := hb.size
  have X_12 : Hid (PB w5.heap.size w12 w5.heap.size l0.length Xr) := X_11.out.grow hb
  have Y_12 : Hid (Blk w12 w6.heap.size Ycs 67) := Y_11.out.grow hb
  have D_12 : Hid (Blk w12 w10.heap.size Dcs 67) := D_11.out.grow hb
  clear hb
  go_wp2
  go_ret
  exact ⟨rfl, B12.out⟩
theorem own : ownKnob Try.prog.godebug = none := by kernel_rfl
theorem laidOut : laidOutB Try.prog = true := by kernel_rfl
set_option maxRecDepth 100000 in
theorem lifted (os : Os) (started : os.Started) (H : Type) (enc : TypeId × Value → H) :
    ReturnsInHanded {} Try.checked os 5 .any (Rows.fnExactHomeOfSpec.pre6 enc Try.prog Try.f5 Rows.fnExactHomeOfRow.domain false) (Rows.fnExactHomeOfSpec.post enc Try.prog Try.f5 false true false false) := by
  refine returnsInHanded_of_change (C := Try.checked) own started (by kernel_rfl) Try.func5
    (ChangeSpec.witness6 (enc := enc) (C := Try.checked) false ⟨#[], #[.slice none 0 0, .slice none 0 0], []⟩ 8 (by kernel_rfl) (by kernel_rfl) (by kernel_rfl) (by kernel_rfl)) ?_
  intro W base args ds gs before hval0 hW hcnd _
  have hval : ∀ (j : Nat) t v, Try.f5.params[j]? = some t → args[j]? = some v → Value.okWide Try.prog W .any base t v := hval0
  have hW' := hW
  obtain ⟨p, q, hA0, hV, rfl, hfz, hnd⟩ := hW
  have hA : DataW.TrodAll enc Try.prog W 0 (fun _ => true) true Try.f5.params.toList args.toList ds p := hA0
  rw [Try.params5] at hA hval
  obtain ⟨v0, vs0, d0, ds0, p0, q0, hargs, rfl, rfl, h0, r0⟩ := trodAll_cons hA
  obtain ⟨v1, vs1, d1, ds1, p1, q1, rfl, rfl, rfl, h1, r1⟩ := trodAll_cons r0
  obtain ⟨rfl, rfl, rfl⟩ := trodAll_nil r1
  obtain rfl : args = #[v0, v1] := by cases args; simp_all
  obtain ⟨rfl, rfl⟩ := trodVars_none hV
  obtain ⟨a0, len0, cap0, rfl⟩ := okWide_slice Try.underlying22 (hval 0 22 v0 rfl rfl)
  have k0 := h0
  have lt0 : ∀ x ∈ p0, x.block < W.heap.size := by obtain ⟨m, hm⟩ := k0; exact DataW.trod_lt m _ _ _ hm
  obtain ⟨l0, rfl, w0, m0, f0⟩ := Go.Proofs.Ytbccaioahifloaa.Sts.open_parts h0
  obtain ⟨a1, len1, cap1, rfl⟩ := okWide_slice Try.underlying32 (hval 1 32 v1 rfl rfl)
  have k1 := h1
  have lt1 : ∀ x ∈ p1, x.block < W.heap.size := by obtain ⟨m, hm⟩ := k1; exact DataW.trod_lt m _ _ _ hm
  obtain ⟨l1, rfl, w1, m1, f1⟩ : ∃ l : List (ByteArray × ByteArray), len1 = l.length ∧ Go.Proofs.Ytbccaioahifloaa.LabS.Reads W a1 l ∧ l.length ≤ maxLen ∧ Go.Proofs.Ytbccaioahifloaa.LabT.Fits l := by
    obtain ⟨fuel, hf⟩ := h1
    exact Go.Proofs.Ytbccaioahifloaa.LabT.open_labs (by simpa [Value.cells] using hf)
  clear hA0 hval0
  refine (walk a0 cap0 l0 a1 cap1 l1 W w0 m0 f0 w1 m1 f1).mono fun e W' ⟨he, bel⟩ => ?_
  subst he
  exact ⟨_, rfl, _, _, _, [], _, [], hW', trodAll_mk1 (shut_bool Try.underlying4 _), (trodAll_cons_mk (Below.trod laidOut (by kernel_rfl) (of_decide_eq_true (by kernel_rfl)) k0 bel lt0) (trodAll_cons_mk (Below.trod laidOut (by kernel_rfl) (of_decide_eq_true (by kernel_rfl)) k1 bel lt1) trodAll_mk0)), rfl, bel.frame _, fun h => by cases h⟩

theorem over : Rows.fnExactHomeOfRow.holds Try.pinned (OpenSpec.ofChange Rows.fnExactHomeOfSpec) :=
  OpenClaim.holds_of_wide 5 Try.f5 rfl rfl rfl rfl rfl rfl rfl ⟨rfl, rfl, rfl, rfl, rfl⟩ rfl rfl rfl rfl rfl (by kernel_rfl) Try.func5 (by kernel_rfl)
    (of_decide_eq_true (by kernel_rfl)) (by unfold Func.isWrapper; first | (rw [if_pos (by decide +kernel)]; kernel_rfl) | (rw [if_neg (by decide +kernel)]; exact ⟨rfl, rfl⟩))
    (fun os started H enc _ => lifted os started H enc)

end Go.Proofs.Ytbccaioahifloaa.FnExactHomeOf
namespace Go.Proofs.Ytbccaioahifloaa
theorem fnExactHomeOf_holds : Rows.FnExactHomeOfSaid := FnExactHomeOf.over
#print axioms fnExactHomeOf_holds
end Go.Proofs.Ytbccaioahifloaa
