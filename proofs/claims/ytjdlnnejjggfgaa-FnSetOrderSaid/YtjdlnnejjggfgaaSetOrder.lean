/-
  PROVED: whatever the code, the law laws.FnSetOrder returns true and leaves the code as it was: of two drawn lists of labels that are unlike one is ahead of the other, and none is ahead of itself, as the specification has it. No condition.
-/
import Derived.Test.YtjdlnnejjggfgaaRows
import Derived.WalkKit
import Derived.ProofKit
import Derived.OpenShut
import Derived.ShutString
import Derived.ChangeOld
import Derived.Below
import Derived.WalkLawsBesides
import Derived.WalkSpells
import Derived.Test.YtjdlnnejjggfgaaLabN
import Derived.Test.YtjdlnnejjggfgaaDrawT
namespace Go.Proofs.Ytjdlnnejjggfgaa.FnSetOrder
open Go.ChangeShapes Go.WideShapes Go.ChangeAt Go.RowKit
open Go.ChangeMaps (open_string shut_string)
set_option linter.unusedVariables false

open Go.Proofs.Ytjdlnnejjggfgaa.Labs Go.Proofs.Ytjdlnnejjggfgaa.LabS Go.Proofs.Ytjdlnnejjggfgaa.LabN Go.Proofs.Ytjdlnnejjggfgaa.Draw Go.Proofs.Ytjdlnnejjggfgaa.DrawL Go.Proofs.Ytjdlnnejjggfgaa.DrawT Go.Proofs.Ytjdlnnejjggfgaa.LawB Go.Proofs.Ytjdlnnejjggfgaa.Over
open Go.Proofs.Ytjdlnnejjggfgaa.LabL hiding grow_on bel_drewN

set_option maxHeartbeats 2000000 in
theorem core (a : Option Addr) (len cap : Nat) (w : World) (hl : len ≤ maxLen) (hb : Bytes w a len w.heap.size) :
    Calls Try.prog 4 #[.slice a len cap] w fun e w' => e = .returned (.bool true) ∧ Below w.heap.size w w' := by
  have HB : Hid (Bytes w a len w.heap.size) := hb
  have HL : Hid (len ≤ maxLen) := hl
  clear hb hl
  by_cases hbig : (1048576 : Int) < (len : Int)
  · have HC : Hid (Calls Try.prog 9 #[.slice a len cap] w fun e w' => e = .returned (.bool true) ∧ w' = w) := (big_any a len cap w HL.out).mono fun e w' h => ⟨h.1.trans (retB (decide_eq_true hbig)), h.2⟩
    go_enter Try.func4, Try.ntmps4
    go_wp2_with fail
    refine HC.out.mono ?_
    rintro e w1 ⟨rfl, rfl⟩
    go_wp2
    go_ret
    exact ⟨rfl, Below.refl _ _⟩
  have HC : Hid (Calls Try.prog 9 #[.slice a len cap] w fun e w' => e = .returned (.bool false) ∧ w' = w) := (big_any a len cap w HL.out).mono fun e w' h => ⟨h.1.trans (retB (decide_eq_false hbig)), h.2⟩
  go_enter Try.func4, Try.ntmps4
  go_wp2_with fail
  refine HC.out.mono ?_
  rintro e w0 ⟨rfl, rfl⟩
  clear HC
  go_wp2_with fail
  refine (drawSetLess_any a len cap _ HL.out HB.out).mono ?_
  rintro e w1 ⟨⟨g, c, g', c', p, q, rfl, hr, hr', hp, hq, -, -⟩, hb1⟩
  have B1 : Hid (Below w0.heap.size w0 w1) := hb1
  have P_1 : Hid (Reads w1 (some ⟨g, 0, none⟩) p) := hr
  have Q_1 : Hid (Reads w1 (some ⟨g', 0, none⟩) q) := hr'
  have MP : Hid (p.length ≤ maxLen) := by show p.length ≤ maxLen; unfold maxLen; omega
  have MQ : Hid (q.length ≤ maxLen) := by show q.length ≤ maxLen; unfold maxLen; omega
  clear hb1 hr hr'
  rcases sl_cases p q with ⟨he, hl⟩ | ⟨he, hl, hg⟩ | ⟨he, hl, hg⟩
  · have LT : Hid (slB p q = false) := hl
    have EQ : Hid (decide (p = q) = true) := decide_eq_true he
    clear he hl
    go_wp2_with fail
    refine ((implLessS_any _ _ _ _ p q _ P_1.out Q_1.out MP.out MQ.out).mono fun e w' h => (⟨h.1.trans (retB LT.out), h.2⟩ : e = .returned (.bool false) ∧ _)).mono ?_
    rintro e w2 ⟨rfl, hb⟩
    have B2 : Hid (Below w0.heap.size w0 w2) := grow_on B1.out hb
    have P_2 : Hid (Reads w2 (some ⟨g, 0, none⟩) p) := P_1.out.below hb
    have Q_2 : Hid (Reads w2 (some ⟨g', 0, none⟩) q) := Q_1.out.below hb
    clear hb
    go_wp2_with fail
    refine ((calls_drew (specLessS_any _ _ _ _ p q _ P_2.out Q_2.out MP.out MQ.out)).mono fun e w' h => (⟨h.1.trans (retB LT.out), h.2⟩ : e = .returned (.bool false) ∧ _)).mono ?_
    rintro e w3 ⟨rfl, hb⟩
    have B3 : Hid (Below w0.heap.size w0 w3) := grow_on B2.out hb
    have P_3 : Hid (Reads w3 (some ⟨g, 0, none⟩) p) := P_2.out.below hb
    have Q_3 : Hid (Reads w3 (some ⟨g', 0, none⟩) q) := Q_2.out.below hb
    clear hb
    go_wp2_with fail
    refine ((implLessS_any _ _ _ _ p p _ P_3.out P_3.out MP.out MP.out).mono fun e w' h => (⟨h.1.trans (retB (sl_irrefl p)), h.2⟩ : e = .returned (.bool false) ∧ _)).mono ?_
    rintro e w4 ⟨rfl, hb⟩
    have B4 : Hid (Below w0.heap.size w0 w4) := grow_on B3.out hb
    have P_4 : Hid (Reads w4 (some ⟨g, 0, none⟩) p) := P_3.out.below hb
    have Q_4 : Hid (Reads w4 (some ⟨g', 0, none⟩) q) := Q_3.out.below hb
    clear hb
    go_wp2_with fail
    refine ((calls_drew (implSame_any _ _ _ _ p p _ P_4.out P_4.out MP.out MP.out)).mono fun e w' h => (⟨h.1.trans (retB (decide_eq_true rfl)), h.2⟩ : e = .returned (.bool true) ∧ _)).mono ?_
    rintro e w5 ⟨rfl, hb⟩
    have B5 : Hid (Below w0.heap.size w0 w5) := grow_on B4.out hb
    have P_5 : Hid (Reads w5 (some ⟨g, 0, none⟩) p) := P_4.out.below hb
    have Q_5 : Hid (Reads w5 (some ⟨g', 0, none⟩) q) := Q_4.out.below hb
    clear hb
    go_wp2_with fail
    refine ((calls_drew (implSame_any _ _ _ _ p q _ P_5.out Q_5.out MP.out MQ.out)).mono fun e w' h => (⟨h.1.trans (retB EQ.out), h.2⟩ : e = .returned (.bool true) ∧ _)).mono ?_
    rintro e w6 ⟨rfl, hb⟩
    have B6 : Hid (Below w0.heap.size w0 w6) := grow_on B5.out hb
    have P_6 : Hid (Reads w6 (some ⟨g, 0, none⟩) p) := P_5.out.below hb
    have Q_6 : Hid (Reads w6 (some ⟨g', 0, none⟩) q) := Q_5.out.below hb
    clear hb
    go_wp2
    go_ret
    exact ⟨rfl, B6.out⟩
  · have LT : Hid (slB p q = true) := hl
    have EQ : Hid (decide (p = q) = false) := decide_eq_false he
    have GT : Hid (slB q p = false) := hg
    clear hg
    clear he hl
    go_wp2_with fail
    refine ((implLessS_any _ _ _ _ p q _ P_1.out Q_1.out MP.out MQ.out).mono fun e w' h => (⟨h.1.trans (retB LT.out), h.2⟩ : e = .returned (.bool true) ∧ _)).mono ?_
    rintro e w2 ⟨rfl, hb⟩
    have B2 : Hid (Below w0.heap.size w0 w2) := grow_on B1.out hb
    have P_2 : Hid (Reads w2 (some ⟨g, 0, none⟩) p) := P_1.out.below hb
    have Q_2 : Hid (Reads w2 (some ⟨g', 0, none⟩) q) := Q_1.out.below hb
    clear hb
    go_wp2_with fail
    refine ((calls_drew (specLessS_any _ _ _ _ p q _ P_2.out Q_2.out MP.out MQ.out)).mono fun e w' h => (⟨h.1.trans (retB LT.out), h.2⟩ : e = .returned (.bool true) ∧ _)).mono ?_
    rintro e w3 ⟨rfl, hb⟩
    have B3 : Hid (Below w0.heap.size w0 w3) := grow_on B2.out hb
    have P_3 : Hid (Reads w3 (some ⟨g, 0, none⟩) p) := P_2.out.below hb
    have Q_3 : Hid (Reads w3 (some ⟨g', 0, none⟩) q) := Q_2.out.below hb
    clear hb
    go_wp2_with fail
    refine ((implLessS_any _ _ _ _ q p _ Q_3.out P_3.out MQ.out MP.out).mono fun e w' h => (⟨h.1.trans (retB GT.out), h.2⟩ : e = .returned (.bool false) ∧ _)).mono ?_
    rintro e w4 ⟨rfl, hb⟩
    have B4 : Hid (Below w0.heap.size w0 w4) := grow_on B3.out hb
    have P_4 : Hid (Reads w4 (some ⟨g, 0, none⟩) p) := P_3.out.below hb
    have Q_4 : Hid (Reads w4 (some ⟨g', 0, none⟩) q) := Q_3.out.below hb
    clear hb
    go_wp2_with fail
    refine ((implLessS_any _ _ _ _ p p _ P_4.out P_4.out MP.out MP.out).mono fun e w' h => (⟨h.1.trans (retB (sl_irrefl p)), h.2⟩ : e = .returned (.bool false) ∧ _)).mono ?_
    rintro e w5 ⟨rfl, hb⟩
    have B5 : Hid (Below w0.heap.size w0 w5) := grow_on B4.out hb
    have P_5 : Hid (Reads w5 (some ⟨g, 0, none⟩) p) := P_4.out.below hb
    have Q_5 : Hid (Reads w5 (some ⟨g', 0, none⟩) q) := Q_4.out.below hb
    clear hb
    go_wp2_with fail
    refine ((calls_drew (implSame_any _ _ _ _ p p _ P_5.out P_5.out MP.out MP.out)).mono fun e w' h => (⟨h.1.trans (retB (decide_eq_true rfl)), h.2⟩ : e = .returned (.bool true) ∧ _)).mono ?_
    rintro e w6 ⟨rfl, hb⟩
    have B6 : Hid (Below w0.heap.size w0 w6) := grow_on B5.out hb
    have P_6 : Hid (Reads w6 (some ⟨g, 0, none⟩) p) := P_5.out.below hb
    have Q_6 : Hid (Reads w6 (some ⟨g', 0, none⟩) q) := Q_5.out.below hb
    clear hb
    go_wp2_with fail
    refine ((calls_drew (implSame_any _ _ _ _ p q _ P_6.out Q_6.out MP.out MQ.out)).mono fun e w' h => (⟨h.1.trans (retB EQ.out), h.2⟩ : e = .returned (.bool false) ∧ _)).mono ?_
    rintro e w7 ⟨rfl, hb⟩
    have B7 : Hid (Below w0.heap.size w0 w7) := grow_on B6.out hb
    have P_7 : Hid (Reads w7 (some ⟨g, 0, none⟩) p) := P_6.out.below hb
    have Q_7 : Hid (Reads w7 (some ⟨g', 0, none⟩) q) := Q_6.out.below hb
    clear hb
    go_wp2_with fail
    refine ((calls_drew (implSame_any _ _ _ _ p q _ P_7.out Q_7.out MP.out MQ.out)).mono fun e w' h => (⟨h.1.trans (retB EQ.out), h.2⟩ : e = .returned (.bool false) ∧ _)).mono ?_
    rintro e w8 ⟨rfl, hb⟩
    have B8 : Hid (Below w0.heap.size w0 w8) := grow_on B7.out hb
    have P_8 : Hid (Reads w8 (some ⟨g, 0, none⟩) p) := P_7.out.below hb
    have Q_8 : Hid (Reads w8 (some ⟨g', 0, none⟩) q) := Q_7.out.below hb
    clear hb
    go_wp2
    go_ret
    exact ⟨rfl, B8.out⟩
  · have LT : Hid (slB p q = false) := hl
    have EQ : Hid (decide (p = q) = false) := decide_eq_false he
    have GT : Hid (slB q p = true) := hg
    clear hg
    clear he hl
    go_wp2_with fail
    refine ((implLessS_any _ _ _ _ p q _ P_1.out Q_1.out MP.out MQ.out).mono fun e w' h => (⟨h.1.trans (retB LT.out), h.2⟩ : e = .returned (.bool false) ∧ _)).mono ?_
    rintro e w2 ⟨rfl, hb⟩
    have B2 : Hid (Below w0.heap.size w0 w2) := grow_on B1.out hb
    have P_2 : Hid (Reads w2 (some ⟨g, 0, none⟩) p) := P_1.out.below hb
    have Q_2 : Hid (Reads w2 (some ⟨g', 0, none⟩) q) := Q_1.out.below hb
    clear hb
    go_wp2_with fail
    refine ((calls_drew (specLessS_any _ _ _ _ p q _ P_2.out Q_2.out MP.out MQ.out)).mono fun e w' h => (⟨h.1.trans (retB LT.out), h.2⟩ : e = .returned (.bool false) ∧ _)).mono ?_
    rintro e w3 ⟨rfl, hb⟩
    have B3 : Hid (Below w0.heap.size w0 w3) := grow_on B2.out hb
    have P_3 : Hid (Reads w3 (some ⟨g, 0, none⟩) p) := P_2.out.below hb
    have Q_3 : Hid (Reads w3 (some ⟨g', 0, none⟩) q) := Q_2.out.below hb
    clear hb
    go_wp2_with fail
    refine ((implLessS_any _ _ _ _ p p _ P_3.out P_3.out MP.out MP.out).mono fun e w' h => (⟨h.1.trans (retB (sl_irrefl p)), h.2⟩ : e = .returned (.bool false) ∧ _)).mono ?_
    rintro e w4 ⟨rfl, hb⟩
    have B4 : Hid (Below w0.heap.size w0 w4) := grow_on B3.out hb
    have P_4 : Hid (Reads w4 (some ⟨g, 0, none⟩) p) := P_3.out.below hb
    have Q_4 : Hid (Reads w4 (some ⟨g', 0, none⟩) q) := Q_3.out.below hb
    clear hb
    go_wp2_with fail
    refine ((calls_drew (implSame_any _ _ _ _ p p _ P_4.out P_4.out MP.out MP.out)).mono fun e w' h => (⟨h.1.trans (retB (decide_eq_true rfl)), h.2⟩ : e = .returned (.bool true) ∧ _)).mono ?_
    rintro e w5 ⟨rfl, hb⟩
    have B5 : Hid (Below w0.heap.size w0 w5) := grow_on B4.out hb
    have P_5 : Hid (Reads w5 (some ⟨g, 0, none⟩) p) := P_4.out.below hb
    have Q_5 : Hid (Reads w5 (some ⟨g', 0, none⟩) q) := Q_4.out.below hb
    clear hb
    go_wp2_with fail
    refine ((calls_drew (implSame_any _ _ _ _ p q _ P_5.out Q_5.out MP.out MQ.out)).mono fun e w' h => (⟨h.1.trans (retB EQ.out), h.2⟩ : e = .returned (.bool false) ∧ _)).mono ?_
    rintro e w6 ⟨rfl, hb⟩
    have B6 : Hid (Below w0.heap.size w0 w6) := grow_on B5.out hb
    have P_6 : Hid (Reads w6 (some ⟨g, 0, none⟩) p) := P_5.out.below hb
    have Q_6 : Hid (Reads w6 (some ⟨g', 0, none⟩) q) := Q_5.out.below hb
    clear hb
    go_wp2_with fail
    refine ((implLessS_any _ _ _ _ q p _ Q_6.out P_6.out MQ.out MP.out).mono fun e w' h => (⟨h.1.trans (retB GT.out), h.2⟩ : e = .returned (.bool true) ∧ _)).mono ?_
    rintro e w7 ⟨rfl, hb⟩
    have B7 : Hid (Below w0.heap.size w0 w7) := grow_on B6.out hb
    have P_7 : Hid (Reads w7 (some ⟨g, 0, none⟩) p) := P_6.out.below hb
    have Q_7 : Hid (Reads w7 (some ⟨g', 0, none⟩) q) := Q_6.out.below hb
    clear hb
    go_wp2
    go_ret
    exact ⟨rfl, B7.out⟩

theorem walk (a : Option Addr) (len cap : Nat) (zs : List Int) (w : World) (h : IsRow .u8 w a len cap zs) :
    Calls Try.prog 4 #[.slice a len cap] w fun e w' => e = .returned (.bool true) ∧ Below w.heap.size w w' := by
  obtain ⟨hl, hb⟩ := bytes_of h
  exact core a len cap w hl hb
theorem own : ownKnob Try.prog.godebug = none := by kernel_rfl
theorem laidOut : laidOutB Try.prog = true := by kernel_rfl
set_option maxRecDepth 100000 in
theorem lifted (os : Os) (started : os.Started) (H : Type) (enc : TypeId × Value → H) :
    ReturnsInHanded {} Try.checked os 4 .any (Rows.fnSetOrderSpec.pre6 enc Try.prog Try.f4 Rows.fnSetOrderRow.domain false) (Rows.fnSetOrderSpec.post enc Try.prog Try.f4 false true false false) := by
  refine returnsInHanded_of_change (C := Try.checked) own started (by kernel_rfl) Try.func4
    (ChangeSpec.witness6 (enc := enc) (C := Try.checked) false ⟨#[], #[.slice none 0 0], []⟩ 8 (by kernel_rfl) (by kernel_rfl) (by kernel_rfl) (by kernel_rfl)) ?_
  intro W base args ds gs before hval0 hW hcnd _
  have hval : ∀ (j : Nat) t v, Try.f4.params[j]? = some t → args[j]? = some v → Value.okWide Try.prog W .any base t v := hval0
  have hW' := hW
  obtain ⟨p, q, hA0, hV, rfl, hfz, hnd⟩ := hW
  have hA : DataW.TrodAll enc Try.prog W 0 (fun _ => true) true Try.f4.params.toList args.toList ds p := hA0
  rw [Try.params4] at hA hval
  obtain ⟨v0, vs0, d0, ds0, p0, q0, hargs, rfl, rfl, h0, r0⟩ := trodAll_cons hA
  obtain ⟨rfl, rfl, rfl⟩ := trodAll_nil r0
  obtain rfl : args = #[v0] := by cases args; simp_all
  obtain ⟨rfl, rfl⟩ := trodVars_none hV
  obtain ⟨a0, len0, cap0, rfl⟩ := okWide_slice Try.underlying22 (hval 0 22 v0 rfl rfl)
  have k0 := h0
  have lt0 : ∀ x ∈ p0, x.block < W.heap.size := by obtain ⟨m, hm⟩ := k0; exact DataW.trod_lt m _ _ _ hm
  obtain ⟨z0, w0⟩ : ∃ zs, IsRow .u8 W a0 len0 cap0 zs := by
    obtain ⟨fuel, hf⟩ := h0
    rcases open_ints Try.underlying22 Try.underlying5 (by kernel_rfl) hf with ⟨hcs, _⟩ | ⟨x, l, c, zs, hcs, _, hl, hm, hz, _, hcell, hwz⟩
    · simp [Value.cells] at hcs
      obtain ⟨rfl, rfl, rfl⟩ := hcs
      exact ⟨[], .inl ⟨rfl, rfl, rfl, rfl⟩⟩
    · simp [Value.cells] at hcs
      obtain ⟨rfl, rfl, rfl⟩ := hcs
      exact ⟨zs, .inr ⟨_, rfl, hl, hm, by simpa using hz, hcell, hwz⟩⟩
  clear hA0 hval0
  refine (walk a0 len0 cap0 z0 W w0).mono fun e W' ⟨he, bel⟩ => ?_
  subst he
  exact ⟨_, rfl, _, _, _, [], _, [], hW', trodAll_mk1 (shut_bool Try.underlying4 _), (trodAll_cons_mk (Below.trod laidOut (by kernel_rfl) (of_decide_eq_true (by kernel_rfl)) k0 bel lt0) trodAll_mk0), rfl, bel.frame _, fun h => by cases h⟩

theorem over : Rows.fnSetOrderRow.holds Try.pinned (OpenSpec.ofChange Rows.fnSetOrderSpec) :=
  OpenClaim.holds_of_wide 4 Try.f4 rfl rfl rfl rfl rfl rfl rfl ⟨rfl, rfl, rfl, rfl, rfl⟩ rfl rfl rfl rfl rfl (by kernel_rfl) Try.func4 (by kernel_rfl)
    (of_decide_eq_true (by kernel_rfl)) (by unfold Func.isWrapper; first | (rw [if_pos (by decide +kernel)]; kernel_rfl) | (rw [if_neg (by decide +kernel)]; exact ⟨rfl, rfl⟩))
    (fun os started H enc _ => lifted os started H enc)

end Go.Proofs.Ytjdlnnejjggfgaa.FnSetOrder
namespace Go.Proofs.Ytjdlnnejjggfgaa
theorem fnSetOrder_holds : Rows.FnSetOrderSaid := FnSetOrder.over
#print axioms fnSetOrder_holds
end Go.Proofs.Ytjdlnnejjggfgaa
