/-
  PROVED: at every string impl.ParseSet answers as spec.ParseSet, and its answer lies in memory of its own, so the law laws.FnExactParseSet returns true, whatever its argument. No condition.
-/
import Derived.Test.YtlgmhonlgckppaaRows
import Derived.WalkKit
import Derived.ProofKit
import Derived.OpenShut
import Derived.ShutString
import Derived.ChangeOld
import Derived.Below
import Derived.WalkLawsBesides
import Derived.WalkSpells
import Derived.Test.YtlgmhonlgckppaaCutT
import Derived.Test.YtlgmhonlgckppaaMark
import Derived.HandedShaped
namespace Go.Proofs.Ytlgmhonlgckppaa.FnExactParseSet
open Go.ChangeShapes Go.WideShapes Go.ChangeAt Go.RowKit
open Go.ChangeMaps (open_string shut_string)
set_option linter.unusedVariables false

open Go.Proofs.Ytlgmhonlgckppaa.Labs Go.Proofs.Ytlgmhonlgckppaa.LabS Go.Proofs.Ytlgmhonlgckppaa.LabT Go.Proofs.Ytlgmhonlgckppaa.Over Go.Proofs.Ytlgmhonlgckppaa.Blk Go.Proofs.Ytlgmhonlgckppaa.Mark
open Go.Proofs.Ytlgmhonlgckppaa.LabR (Own)
open Go.Proofs.Ytlgmhonlgckppaa.SetP (parseB parseOf cutI cutN_len)
open Go.Proofs.Ytlgmhonlgckppaa.Cuts (MaxAt)
open Go.Proofs.Ytlgmhonlgckppaa.CutP (implParse_any)
open Go.Proofs.Ytlgmhonlgckppaa.CutT (specParse_any)

theorem four (s : ByteArray) : (parseB s).1.length ≤ 4 := by
  unfold parseB parseOf
  split
  · exact cutN_len 4 _
  · simp
theorem small {s : ByteArray} : (parseB s).1.length ≤ maxLen := Nat.le_trans (four s) (by unfold maxLen; decide)
set_option maxHeartbeats 1600000 in
set_option maxRecDepth 100000 in
theorem walk (s : ByteArray) (w : World) (z0 : s.size ≤ maxLen) (hm : MaxAt w) :
    Calls Try.prog 5 #[.string s] w fun e w' => e = .returned (.bool true) ∧ Below w.heap.size w w' := by
  have HX : Hid (MaxAt w) := hm
  have y0 : s.size ≤ 2 ^ 63 - 1 := z0
  have S4 : Hid ((parseB s).1.length ≤ 4) := four s
  clear z0 hm
  have B0 : Hid (Below w.heap.size w w) := Below.refl _ _
  by_cases q0 : (1048576 : Int) < (s.size : Int)
  · go_enter Try.func5, Try.ntmps5
    go_wp2
    go_ret
    exact ⟨rfl, B0.out⟩
  have Z0 : Hid (s.size ≤ 1048576) := by show s.size ≤ 1048576; omega
  go_enter Try.func5, Try.ntmps5
  go_wp2_with fail
  refine (specParse_any s _ Z0.out).mono ?_
  rintro e w3 ⟨⟨M3, c3, rfl, hM3, cs3, hk, hs, hh⟩, hb⟩
  have B3 : Hid (Below w.heap.size w w3) := grow_on B0.out hb
  have G3_3 : Hid (Blk w3 M3 cs3 51) := hk
  have H3 : Hid (Held cs3 (parseB s).1 (parseB s).1.length) := hh
  have L3 : Hid (M3 < w3.heap.size) := hk.lt
  clear hk hh hs hM3
  clear hb
  go_wp2_with fail
  refine (implParse_any s _ Z0.out (HX.out.below B3.out)).mono ?_
  rintro e w5 ⟨⟨M5, c5, rfl, hM5, cs5, hk, hs, hh⟩, hb⟩
  have B5 : Hid (Below w.heap.size w w5) := grow_on B3.out hb
  have G3_5 : Hid (Blk w5 M3 cs3 51) := G3_3.out.grow hb
  have G5_5 : Hid (Blk w5 M5 cs5 51) := hk
  have H5 : Hid (Held cs5 (parseB s).1 (parseB s).1.length) := hh
  have S5 : Hid ((parseB s).1.length * 2 ≤ cs5.size) := hs
  have U5 : Hid (w3.heap.size ≤ M5) := hM5
  clear hk hh hs hM5
  clear hb
  have e0 : decide ((parseB s).1 = (parseB s).1) = true := decide_eq_true rfl
  have e2 : ((parseB s).2 == (parseB s).2) = true := beq_self_eq_true _
  go_wp2_with fail
  refine (eq_any _ _ _ _ (parseB s).1 (parseB s).1 _ (held_reads G5_5.out H5.out) (held_reads G3_5.out H3.out) small small).mono ?_
  rintro e w10 ⟨rfl, hb⟩
  have B10 : Hid (Below w.heap.size w w10) := grow_on B5.out hb
  have G3_10 : Hid (Blk w10 M3 cs3 51) := G3_5.out.grow hb
  have G5_10 : Hid (Blk w10 M5 cs5 51) := G5_5.out.grow hb
  have N35 : Hid (M3 ≠ M5) := by
    have h1 := L3.out
    have h2 := U5.out
    show M3 ≠ M5
    omega
  clear hb
  go_wp2_with fail
  refine (mark_any M5 (parseB s).1.length c5 1 cs5 _ G5_10.out S5.out (by have := S4.out; omega) (by omega) (by omega)).mono ?_
  rintro e w11 ⟨rfl, ⟨cs11, hk, -, hm⟩, ha⟩
  have B11 : Hid (Below w.heap.size w w11) := B10.out.trans (ha.low (Nat.le_trans B3.out.size U5.out) B10.out.size)
  have G3_11 : Hid (Blk w11 M3 cs3 51) := ha.blk G3_10.out N35.out
  have G5_11 : Hid (Blk w11 M5 cs11 51) := hk
  have HM : Hid (Marked cs11 1 (parseB s).1.length) := hm
  clear hk hm ha
  have hq : ¬ ((1 + 2 * (parseB s).1.length : Nat) : Int) < 0 := by omega
  go_wp2_with fail
  refine (held_any M5 (parseB s).1.length c5 1 cs11 _ G5_11.out HM.out (by have := S4.out; omega) (by omega) (by omega)).mono ?_
  rintro e w12 ⟨rfl, hb⟩
  have B12 : Hid (Below w.heap.size w w12) := grow_on B11.out hb
  have G3_12 : Hid (Blk w12 M3 cs3 51) := G3_11.out.grow hb
  have G5_12 : Hid (Blk w12 M5 cs11 51) := G5_11.out.grow hb
  clear hb
  go_wp2_with fail
  refine (implParse_any s _ Z0.out (HX.out.below B12.out)).mono ?_
  rintro e w14 ⟨⟨M14, c14, rfl, -, cs14, hk, -, hh⟩, hb⟩
  have B14 : Hid (Below w.heap.size w w14) := grow_on B12.out hb
  have G3_14 : Hid (Blk w14 M3 cs3 51) := G3_12.out.grow hb
  have G5_14 : Hid (Blk w14 M5 cs11 51) := G5_12.out.grow hb
  have C14 : Hid (Reads w14 (some ⟨M14, 0, none⟩) (parseB s).1) := held_reads hk hh
  clear hk hh
  clear hb
  go_wp2_with fail
  refine (eq_any _ _ _ _ (parseB s).1 (parseB s).1 _ C14.out (held_reads G3_14.out H3.out) small small).mono ?_
  rintro e w15 ⟨rfl, hb⟩
  have B15 : Hid (Below w.heap.size w w15) := grow_on B14.out hb
  have G5_15 : Hid (Blk w15 M5 cs11 51) := G5_14.out.grow hb
  clear hb
  go_wp2_with fail
  refine (held_any M5 (parseB s).1.length c5 1 cs11 _ G5_15.out HM.out (by have := S4.out; omega) (by omega) (by omega)).mono ?_
  rintro e w16 ⟨rfl, hb⟩
  have B16 : Hid (Below w.heap.size w w16) := grow_on B15.out hb
  clear hb
  go_wp2
  go_ret
  exact ⟨rfl, B16.out⟩
theorem own : ownKnob Try.prog.godebug = none := by kernel_rfl
theorem laidOut : laidOutB Try.prog = true := by kernel_rfl
set_option maxRecDepth 100000 in
theorem lifted (os : Os) (started : os.Started) (H : Type) (enc : TypeId × Value → H) :
    ReturnsInHanded {} Try.checked os 5 .any (Rows.fnExactParseSetSpec.pre6 enc Try.prog Try.f5 Rows.fnExactParseSetRow.domain false) (Rows.fnExactParseSetSpec.post enc Try.prog Try.f5 false true false false) := by
  refine returnsInHanded_of_change_shaped (C := Try.checked) own started (by kernel_rfl) Try.func5
    (ChangeSpec.witness6 (enc := enc) (C := Try.checked) false ⟨#[], #[.string ⟨#[]⟩], []⟩ 8 (by kernel_rfl) (by kernel_rfl) (by kernel_rfl) (by kernel_rfl)) ?_
  intro W base args ds gs before hval0 hW hcnd _ hsh _
  have hval : ∀ (j : Nat) t v, Try.f5.params[j]? = some t → args[j]? = some v → Value.okWide Try.prog W .any base t v := hval0
  have hW' := hW
  obtain ⟨p, q, hA0, hV, rfl, hfz, hnd⟩ := hW
  have hA : DataW.TrodAll enc Try.prog W 0 (fun _ => true) true Try.f5.params.toList args.toList ds p := hA0
  rw [Try.params5] at hA hval
  obtain ⟨v0, vs0, d0, ds0, p0, q0, hargs, rfl, rfl, h0, r0⟩ := trodAll_cons hA
  obtain ⟨rfl, rfl, rfl⟩ := trodAll_nil r0
  obtain rfl : args = #[v0] := by cases args; simp_all
  obtain ⟨rfl, rfl⟩ := trodVars_none hV
  obtain ⟨a0, rfl, rfl, rfl, w0⟩ := open_string Try.underlying9 (hval 0 9 v0 rfl rfl) h0
  clear hA0 hval0
  refine (walk a0 W w0 (Go.Proofs.Ytlgmhonlgckppaa.Cuts.maxAt hsh)).mono fun e W' ⟨he, bel⟩ => ?_
  subst he
  exact ⟨_, rfl, _, _, _, [], _, [], hW', trodAll_mk1 (shut_bool Try.underlying4 _), (trodAll_cons_mk (shut_string Try.underlying9 w0) trodAll_mk0), rfl, bel.frame _, fun h => by cases h⟩

theorem over : Rows.fnExactParseSetRow.holds Try.pinned (OpenSpec.ofChange Rows.fnExactParseSetSpec) :=
  OpenClaim.holds_of_wide 5 Try.f5 rfl rfl rfl rfl rfl rfl rfl ⟨rfl, rfl, rfl, rfl, rfl⟩ rfl rfl rfl rfl rfl (by kernel_rfl) Try.func5 (by kernel_rfl)
    (of_decide_eq_true (by kernel_rfl)) (by unfold Func.isWrapper; first | (rw [if_pos (by decide +kernel)]; kernel_rfl) | (rw [if_neg (by decide +kernel)]; exact ⟨rfl, rfl⟩))
    (fun os started H enc _ => lifted os started H enc)

end Go.Proofs.Ytlgmhonlgckppaa.FnExactParseSet
namespace Go.Proofs.Ytlgmhonlgckppaa
theorem fnExactParseSet_holds : Rows.FnExactParseSetSaid := FnExactParseSet.over
#print axioms fnExactParseSet_holds
end Go.Proofs.Ytlgmhonlgckppaa
