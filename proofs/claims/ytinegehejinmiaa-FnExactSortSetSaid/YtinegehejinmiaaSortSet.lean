/-
  PROVED: at every slice of labels impl.SortSet answers as spec.SortSet, leaves it as it was, keeps nothing of it, and its answer lies in memory of its own, so the law laws.FnExactSortSet returns true, whatever its argument. No condition.
-/
import Derived.Test.YtinegehejinmiaaRows
import Derived.WalkKit
import Derived.ProofKit
import Derived.OpenShut
import Derived.ShutString
import Derived.ChangeOld
import Derived.Below
import Derived.WalkLawsBesides
import Derived.WalkSpells
import Derived.Test.YtinegehejinmiaaLabU
import Derived.Test.YtinegehejinmiaaMark
namespace Go.Proofs.Ytinegehejinmiaa.FnExactSortSet
open Go.ChangeShapes Go.WideShapes Go.ChangeAt Go.RowKit
open Go.ChangeMaps (open_string shut_string)
set_option linter.unusedVariables false

open Go.Proofs.Ytinegehejinmiaa.Labs Go.Proofs.Ytinegehejinmiaa.LabS Go.Proofs.Ytinegehejinmiaa.LabT Go.Proofs.Ytinegehejinmiaa.Over Go.Proofs.Ytinegehejinmiaa.Blk Go.Proofs.Ytinegehejinmiaa.LabP Go.Proofs.Ytinegehejinmiaa.Mark
open Go.Proofs.Ytinegehejinmiaa.LabR (Own implSort_any)
open Go.Proofs.Ytinegehejinmiaa.LabU (specSort_any)

theorem small {l : List Lab} : (sortB l).1.length ≤ maxLen := Nat.le_trans (sort_small l) (by unfold maxLen; decide)
set_option maxHeartbeats 1600000 in
theorem walk (a : Option Addr) (cap : Nat) (l : List Lab) (w : World) (r0 : Reads w a l) (m0 : l.length ≤ maxLen) (f0 : Fits l) :
    Calls Try.prog 6 #[.slice a l.length cap] w fun e w' => e = .returned (.bool true) ∧ Below w.heap.size w w' := by
  have R : Hid (Reads w a l) := r0
  have M : Hid (l.length ≤ maxLen) := m0
  have F : Hid (Fits l) := f0
  have S4 : Hid ((sortB l).1.length ≤ 4) := sort_small l
  clear r0 m0 f0
  have B0 : Hid (Below w.heap.size w w) := Below.refl _ _
  go_enter Try.func6, Try.ntmps6
  go_wp2_with fail
  refine (sz_any a cap l _ _ R.out M.out F.out (by omega) (by omega)).mono ?_
  rintro e w1 ⟨⟨n, rfl, -, hn⟩, hb⟩
  have B1 : Hid (Below w.heap.size w w1) := grow_on B0.out hb
  clear hb
  by_cases g : n < 0
  · clear hn
    go_wp2
    go_ret
    exact ⟨rfl, B1.out⟩
  have K : Hid (l.length ≤ 1048576) := by have := hn (by omega); show l.length ≤ 1048576; omega
  clear hn
  go_wp2_with fail
  refine (to_any a cap l _ (R.out.below B1.out) K.out).mono ?_
  rintro e w2 ⟨rfl, ⟨cs2, hk, -, hh⟩, hb⟩
  have B2 : Hid (Below w.heap.size w w2) := grow_on B1.out hb
  have C2 : Hid (Reads w2 (some ⟨w1.heap.size, 0, none⟩) l) := held_reads hk hh
  clear hk hh
  clear hb
  go_wp2_with fail
  refine (specSort_any _ _ l _ C2.out M.out F.out).mono ?_
  rintro e w3 ⟨⟨M3, c3, rfl, hM3, cs3, hk, hs, hh⟩, hb⟩
  have B3 : Hid (Below w.heap.size w w3) := grow_on B2.out hb
  have G3_3 : Hid (Blk w3 M3 cs3 29) := hk
  have H3 : Hid (Held cs3 (sortB l).1 (sortB l).1.length) := hh
  have L3 : Hid (M3 < w3.heap.size) := hk.lt
  have U3 : Hid (w.heap.size ≤ M3) := Nat.le_trans B2.out.size hM3
  clear hk hh hs hM3
  clear hb
  go_wp2_with fail
  refine (to_any a cap l _ (R.out.below B3.out) K.out).mono ?_
  rintro e w4 ⟨rfl, ⟨cs4, hk, hs, hh⟩, hb⟩
  have B4 : Hid (Below w.heap.size w w4) := grow_on B3.out hb
  have G3_4 : Hid (Blk w4 M3 cs3 29) := G3_3.out.grow hb
  have X_4 : Hid (Blk w4 w3.heap.size cs4 29) := hk
  have HX : Hid (Held cs4 l l.length) := hh
  have SX : Hid (cs4.size = l.length * 2) := hs
  clear hk hh hs
  clear hb
  go_wp2_with fail
  refine (implSort_any _ _ l _ (held_reads X_4.out HX.out) M.out F.out).mono ?_
  rintro e w5 ⟨⟨M5, c5, rfl, hM5, cs5, hk, hs, hh⟩, hb⟩
  have B5 : Hid (Below w.heap.size w w5) := grow_on B4.out hb
  have G3_5 : Hid (Blk w5 M3 cs3 29) := G3_4.out.grow hb
  have X_5 : Hid (Blk w5 w3.heap.size cs4 29) := X_4.out.grow hb
  have G5_5 : Hid (Blk w5 M5 cs5 29) := hk
  have H5 : Hid (Held cs5 (sortB l).1 (sortB l).1.length) := hh
  have S5 : Hid ((sortB l).1.length * 2 ≤ cs5.size) := hs
  have U5 : Hid (w4.heap.size ≤ M5) := hM5
  clear hk hh hs hM5
  clear hb
  have e0 : decide ((sortB l).1 = (sortB l).1) = true := decide_eq_true rfl
  have e1 : decide (l = l) = true := decide_eq_true rfl
  have e2 : ((sortB l).2 == (sortB l).2) = true := beq_self_eq_true _
  go_wp2_with fail
  refine (eq_any _ _ _ _ (sortB l).1 (sortB l).1 _ (held_reads G5_5.out H5.out) (held_reads G3_5.out H3.out) small small).mono ?_
  rintro e w6 ⟨rfl, hb⟩
  have B6 : Hid (Below w.heap.size w w6) := grow_on B5.out hb
  have G3_6 : Hid (Blk w6 M3 cs3 29) := G3_5.out.grow hb
  have X_6 : Hid (Blk w6 w3.heap.size cs4 29) := X_5.out.grow hb
  have G5_6 : Hid (Blk w6 M5 cs5 29) := G5_5.out.grow hb
  clear hb
  go_wp2_with fail
  refine (to_any a cap l _ (R.out.below B6.out) K.out).mono ?_
  rintro e w7 ⟨rfl, ⟨cs7, hk, -, hh⟩, hb⟩
  have B7 : Hid (Below w.heap.size w w7) := grow_on B6.out hb
  have G3_7 : Hid (Blk w7 M3 cs3 29) := G3_6.out.grow hb
  have X_7 : Hid (Blk w7 w3.heap.size cs4 29) := X_6.out.grow hb
  have G5_7 : Hid (Blk w7 M5 cs5 29) := G5_6.out.grow hb
  have Y : Hid (Reads w7 (some ⟨w6.heap.size, 0, none⟩) l) := held_reads hk hh
  clear hk hh
  clear hb
  go_wp2_with fail
  refine (eq_any _ _ _ _ l l _ (held_reads X_7.out HX.out) Y.out M.out M.out).mono ?_
  rintro e w8 ⟨rfl, hb⟩
  have B8 : Hid (Below w.heap.size w w8) := grow_on B7.out hb
  have G3_8 : Hid (Blk w8 M3 cs3 29) := G3_7.out.grow hb
  have X_8 : Hid (Blk w8 w3.heap.size cs4 29) := X_7.out.grow hb
  have G5_8 : Hid (Blk w8 M5 cs5 29) := G5_7.out.grow hb
  clear hb
  go_wp2_with fail
  refine (mark_any w3.heap.size l.length l.length 1 cs4 _ X_8.out (by rw [SX.out]; exact Nat.le_refl _) K.out (by omega) (by omega)).mono ?_
  rintro e w9 ⟨rfl, -, ha⟩
  have B9 : Hid (Below w.heap.size w w9) := B8.out.trans (ha.low B3.out.size B8.out.size)
  have N35 : Hid (M3 ≠ w3.heap.size ∧ M5 ≠ w3.heap.size ∧ M3 ≠ M5) := by
    have h4 := X_4.out.lt
    have h1 := L3.out
    have h2 := U5.out
    exact ⟨by omega, by omega, by omega⟩
  have G3_9 : Hid (Blk w9 M3 cs3 29) := ha.blk G3_8.out N35.out.1
  have G5_9 : Hid (Blk w9 M5 cs5 29) := ha.blk G5_8.out N35.out.2.1
  clear ha
  have hq : ¬ ((1 + 2 * l.length : Nat) : Int) < 0 := by omega
  go_wp2_with fail
  refine (eq_any _ _ _ _ (sortB l).1 (sortB l).1 _ (held_reads G5_9.out H5.out) (held_reads G3_9.out H3.out) small small).mono ?_
  rintro e w10 ⟨rfl, hb⟩
  have B10 : Hid (Below w.heap.size w w10) := grow_on B9.out hb
  have G3_10 : Hid (Blk w10 M3 cs3 29) := G3_9.out.grow hb
  have G5_10 : Hid (Blk w10 M5 cs5 29) := G5_9.out.grow hb
  clear hb
  clear hq
  go_wp2_with fail
  refine (mark_any M5 (sortB l).1.length c5 1 cs5 _ G5_10.out S5.out (by have := S4.out; omega) (by omega) (by omega)).mono ?_
  rintro e w11 ⟨rfl, ⟨cs11, hk, -, hm⟩, ha⟩
  have B11 : Hid (Below w.heap.size w w11) := B10.out.trans (ha.low (Nat.le_trans B4.out.size U5.out) B10.out.size)
  have G3_11 : Hid (Blk w11 M3 cs3 29) := ha.blk G3_10.out N35.out.2.2
  have G5_11 : Hid (Blk w11 M5 cs11 29) := hk
  have HM : Hid (Marked cs11 1 (sortB l).1.length) := hm
  clear hk hm ha
  have hq : ¬ ((1 + 2 * (sortB l).1.length : Nat) : Int) < 0 := by omega
  go_wp2_with fail
  refine (held_any M5 (sortB l).1.length c5 1 cs11 _ G5_11.out HM.out (by have := S4.out; omega) (by omega) (by omega)).mono ?_
  rintro e w12 ⟨rfl, hb⟩
  have B12 : Hid (Below w.heap.size w w12) := grow_on B11.out hb
  have G3_12 : Hid (Blk w12 M3 cs3 29) := G3_11.out.grow hb
  have G5_12 : Hid (Blk w12 M5 cs11 29) := G5_11.out.grow hb
  clear hb
  go_wp2_with fail
  refine (to_any a cap l _ (R.out.below B12.out) K.out).mono ?_
  rintro e w13 ⟨rfl, ⟨cs13, hk, -, hh⟩, hb⟩
  have B13 : Hid (Below w.heap.size w w13) := grow_on B12.out hb
  have G3_13 : Hid (Blk w13 M3 cs3 29) := G3_12.out.grow hb
  have G5_13 : Hid (Blk w13 M5 cs11 29) := G5_12.out.grow hb
  have C13 : Hid (Reads w13 (some ⟨w12.heap.size, 0, none⟩) l) := held_reads hk hh
  clear hk hh
  clear hb
  go_wp2_with fail
  refine (implSort_any _ _ l _ C13.out M.out F.out).mono ?_
  rintro e w14 ⟨⟨M14, c14, rfl, -, cs14, hk, -, hh⟩, hb⟩
  have B14 : Hid (Below w.heap.size w w14) := grow_on B13.out hb
  have G3_14 : Hid (Blk w14 M3 cs3 29) := G3_13.out.grow hb
  have G5_14 : Hid (Blk w14 M5 cs11 29) := G5_13.out.grow hb
  have C14 : Hid (Reads w14 (some ⟨M14, 0, none⟩) (sortB l).1) := held_reads hk hh
  clear hk hh
  clear hb
  go_wp2_with fail
  refine (eq_any _ _ _ _ (sortB l).1 (sortB l).1 _ C14.out (held_reads G3_14.out H3.out) small small).mono ?_
  rintro e w15 ⟨rfl, hb⟩
  have B15 : Hid (Below w.heap.size w w15) := grow_on B14.out hb
  have G3_15 : Hid (Blk w15 M3 cs3 29) := G3_14.out.grow hb
  have G5_15 : Hid (Blk w15 M5 cs11 29) := G5_14.out.grow hb
  clear hb
  go_wp2_with fail
  refine (held_any M5 (sortB l).1.length c5 1 cs11 _ G5_15.out HM.out (by have := S4.out; omega) (by omega) (by omega)).mono ?_
  rintro e w16 ⟨rfl, hb⟩
  have B16 : Hid (Below w.heap.size w w16) := grow_on B15.out hb
  clear hb
  go_wp2
  go_ret
  exact ⟨rfl, B16.out⟩
theorem own : ownKnob Try.prog.godebug = none := by kernel_rfl
theorem laidOut : laidOutB Try.prog = true := by kernel_rfl
set_option maxRecDepth 100000 in
theorem lifted (os : Os) (started : os.Started) (H : Type) (enc : TypeId × Value → H) :
    ReturnsInHanded {} Try.checked os 6 .any (Rows.fnExactSortSetSpec.pre6 enc Try.prog Try.f6 Rows.fnExactSortSetRow.domain false) (Rows.fnExactSortSetSpec.post enc Try.prog Try.f6 false true false false) := by
  refine returnsInHanded_of_change (C := Try.checked) own started (by kernel_rfl) Try.func6
    (ChangeSpec.witness6 (enc := enc) (C := Try.checked) false ⟨#[], #[.slice none 0 0], []⟩ 8 (by kernel_rfl) (by kernel_rfl) (by kernel_rfl) (by kernel_rfl)) ?_
  intro W base args ds gs before hval0 hW hcnd _
  have hval : ∀ (j : Nat) t v, Try.f6.params[j]? = some t → args[j]? = some v → Value.okWide Try.prog W .any base t v := hval0
  have hW' := hW
  obtain ⟨p, q, hA0, hV, rfl, hfz, hnd⟩ := hW
  have hA : DataW.TrodAll enc Try.prog W 0 (fun _ => true) true Try.f6.params.toList args.toList ds p := hA0
  rw [Try.params6] at hA hval
  obtain ⟨v0, vs0, d0, ds0, p0, q0, hargs, rfl, rfl, h0, r0⟩ := trodAll_cons hA
  obtain ⟨rfl, rfl, rfl⟩ := trodAll_nil r0
  obtain rfl : args = #[v0] := by cases args; simp_all
  obtain ⟨rfl, rfl⟩ := trodVars_none hV
  obtain ⟨a0, len0, cap0, rfl⟩ := okWide_slice Try.underlying55 (hval 0 55 v0 rfl rfl)
  have k0 := h0
  have lt0 : ∀ x ∈ p0, x.block < W.heap.size := by obtain ⟨m, hm⟩ := k0; exact DataW.trod_lt m _ _ _ hm
  obtain ⟨l0, rfl, w0, m0, f0⟩ : ∃ l : List (ByteArray × ByteArray), len0 = l.length ∧ Go.Proofs.Ytinegehejinmiaa.LabS.Reads W a0 l ∧ l.length ≤ maxLen ∧ Go.Proofs.Ytinegehejinmiaa.LabT.Fits l := by
    obtain ⟨fuel, hf⟩ := h0
    exact Go.Proofs.Ytinegehejinmiaa.LabT.open_labs (by simpa [Value.cells] using hf)
  clear hA0 hval0
  refine (walk a0 cap0 l0 W w0 m0 f0).mono fun e W' ⟨he, bel⟩ => ?_
  subst he
  exact ⟨_, rfl, _, _, _, [], _, [], hW', trodAll_mk1 (shut_bool Try.underlying4 _), (trodAll_cons_mk (Below.trod laidOut (by kernel_rfl) (of_decide_eq_true (by kernel_rfl)) k0 bel lt0) trodAll_mk0), rfl, bel.frame _, fun h => by cases h⟩

theorem over : Rows.fnExactSortSetRow.holds Try.pinned (OpenSpec.ofChange Rows.fnExactSortSetSpec) :=
  OpenClaim.holds_of_wide 6 Try.f6 rfl rfl rfl rfl rfl rfl rfl ⟨rfl, rfl, rfl, rfl, rfl⟩ rfl rfl rfl rfl rfl (by kernel_rfl) Try.func6 (by kernel_rfl)
    (of_decide_eq_true (by kernel_rfl)) (by unfold Func.isWrapper; first | (rw [if_pos (by decide +kernel)]; kernel_rfl) | (rw [if_neg (by decide +kernel)]; exact ⟨rfl, rfl⟩))
    (fun os started H enc _ => lifted os started H enc)

end Go.Proofs.Ytinegehejinmiaa.FnExactSortSet
namespace Go.Proofs.Ytinegehejinmiaa
theorem fnExactSortSet_holds : Rows.FnExactSortSetSaid := FnExactSortSet.over
#print axioms fnExactSortSet_holds
end Go.Proofs.Ytinegehejinmiaa
