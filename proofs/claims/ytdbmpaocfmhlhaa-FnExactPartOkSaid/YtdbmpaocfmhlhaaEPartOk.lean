/-
  PROVED: at every part and every two numbers impl.PartOk answers as spec.PartOk and leaves the part as it was, so the law laws.FnExactPartOk returns true, whatever its arguments. No condition.
-/
import Derived.Test.YtdbmpaocfmhlhaaRows
import Derived.WalkKit
import Derived.ProofKit
import Derived.OpenShut
import Derived.ShutString
import Derived.ChangeOld
import Derived.Below
import Derived.WalkLawsBesides
import Derived.WalkSpells
import Derived.Test.YtdbmpaocfmhlhaaPrtO
import Derived.Deep.RegionHeld3
namespace Go.Proofs.Ytdbmpaocfmhlhaa.FnExactPartOk
open Go.ChangeShapes Go.WideShapes Go.ChangeAt Go.RowKit
open Go.ChangeMaps (open_string shut_string)
set_option linter.unusedVariables false

open Go.Proofs.Ytdbmpaocfmhlhaa.Labs Go.Proofs.Ytdbmpaocfmhlhaa.LabS Go.Proofs.Ytdbmpaocfmhlhaa.Over Go.Proofs.Ytdbmpaocfmhlhaa.Blk Go.Proofs.Ytdbmpaocfmhlhaa.Alms Go.Proofs.Ytdbmpaocfmhlhaa.Rws Go.Proofs.Ytdbmpaocfmhlhaa.ChnC Go.Proofs.Ytdbmpaocfmhlhaa.ChnK Go.Proofs.Ytdbmpaocfmhlhaa.Chs Go.Proofs.Ytdbmpaocfmhlhaa.Prt
open Go.Proofs.Ytdbmpaocfmhlhaa.Alm (AlIn)
open Go.Proofs.Ytdbmpaocfmhlhaa.LabT (held_reads)
theorem rnC {lo : Nat} {w : World} {M c : Nat} {cs : List CRow} {C : List PCh} (h : CB lo w M c cs) (hp : chs cs = C) : RdG RdN w (some ⟨M, 0, none⟩) C := by have := h.rn; rwa [hp] at this
theorem rdC {lo : Nat} {w : World} {M c : Nat} {cs : List CRow} {C : List PCh} (h : CB lo w M c cs) (hp : chs cs = C) : RdG RdA w (some ⟨M, 0, none⟩) C := (rnC h hp).rd
set_option maxRecDepth 100000 in
set_option maxHeartbeats 4000000 in
theorem walk (hd0 vr0 : Int) (a0 : Option Addr) (cap0 : Nat) (l0 : List PCh) (a1 : Int) (a2 : Int) (w : World) (r0 : RdG RdA w a0 l0) (m0 : l0.length ≤ maxLen) (z0 : FitsC l0) (y0 : I64 hd0) (x0 : I64 vr0) (z1 : (Lit.int .i64 a1).wf = true) (z2 : (Lit.int .i64 a2).wf = true) :
    Calls Try.prog 3 #[.agg #[.int .i64 hd0, .int .i64 vr0, .slice a0 l0.length cap0], .int .i64 a1, .int .i64 a2] w fun e w' => e = .returned (.bool true) ∧ Below w.heap.size w w' := by
  have R0 : Hid (RdG RdA w a0 l0) := r0
  have M0 : Hid (l0.length ≤ maxLen) := m0
  have F0 : Hid (FitsC l0) := z0
  have I0 : Hid (I64 hd0 ∧ I64 vr0) := ⟨y0, x0⟩
  clear r0 m0 z0 y0 x0
  have J1 : Hid (I64 a1) := Go.bounds_i64 z1
  clear z1
  have J2 : Hid (I64 a2) := Go.bounds_i64 z2
  clear z2
  have B0 : Hid (Below w.heap.size w w) := Below.refl _ _
  go_enter Try.func3, Try.ntmps3
  go_wp2_with fail
  refine (szPart_any hd0 vr0 a0 cap0 l0 1048576 _ (R0.out.below stays_rd (grow_on B0.out (Go.Joins.below_alloc1 w _))) M0.out F0.out (by omega) (by omega)).mono ?_
  rintro e w1 ⟨⟨k0, rfl, p0, hn⟩, hb⟩
  have P0_1 : Hid (Blk w1 w.heap.size #[.int .i64 hd0, .int .i64 vr0, .slice a0 l0.length cap0] 24) := (Blk.new _ _ _).grow hb
  have U_P0 : Hid (w.heap.size ≤ w.heap.size ∧ w.heap.size < w1.heap.size) := ⟨by omega, P0_1.out.lt⟩
  replace hb := grow_on (Go.Joins.below_alloc1 w _) hb
  have B1 : Hid (Below w.heap.size w w1) := grow_on B0.out hb
  have Z1 : Hid (w.heap.size ≤ w1.heap.size) := hb.size
  clear hb
  by_cases g0 : k0 < 0
  · clear hn
    go_wp2
    go_ret
    exact ⟨rfl, B1.out⟩
  have K0 : Hid (l0.length ≤ 1048576 ∧ sumC l0 ≤ 1048576 ∧ l0.length + sumC l0 ≤ 1048576) := by have := hn (by omega); exact ⟨by omega, by omega, by omega⟩
  have N0 : Hid (PrtO.Small l0) := fun q hq => by have := sumC_mem hq; have := K0.out.2.1; exact ⟨by omega, lenM_of (by omega)⟩
  clear hn
  have cP00 : w1.cell? ⟨w.heap.size, 0, none⟩ = some (.int .i64 hd0) := (P0_1.out).cell 0
  have cP01 : w1.cell? ⟨w.heap.size, 1, none⟩ = some (.int .i64 vr0) := (P0_1.out).cell 1
  have cP02 : w1.cell? ⟨w.heap.size, 2, none⟩ = some (.slice a0 l0.length cap0) := (P0_1.out).cell 2
  go_wp2_with fail
  refine (toPart_any hd0 vr0 a0 cap0 l0 _ (R0.out.below stays_rd B1.out) K0.out.1 K0.out.2.1).mono ?_
  rintro e w2 ⟨⟨SM, Sr, rfl, hA, hP⟩, hb⟩
  have S_2 : Hid (CB w1.heap.size w2 SM l0.length Sr) := hA.down (by first | exact Nat.le_refl _ | simp)
  have SP : Hid (chs Sr = l0) := hP
  have U_S : Hid (w1.heap.size ≤ SM ∧ SM < w2.heap.size) := ⟨S_2.out.at', S_2.out.lt⟩
  clear hA hP
  have B2 : Hid (Below w.heap.size w w2) := grow_on B1.out hb
  have Z2 : Hid (w1.heap.size ≤ w2.heap.size) := hb.size
  have P0_2 : Hid (Blk w2 w.heap.size #[.int .i64 hd0, .int .i64 vr0, .slice a0 l0.length cap0] 24) := P0_1.out.grow hb
  clear hb cP00 cP01 cP02
  have cP00 : w2.cell? ⟨w.heap.size, 0, none⟩ = some (.int .i64 hd0) := (P0_2.out).cell 0
  have cP01 : w2.cell? ⟨w.heap.size, 1, none⟩ = some (.int .i64 vr0) := (P0_2.out).cell 1
  have cP02 : w2.cell? ⟨w.heap.size, 2, none⟩ = some (.slice a0 l0.length cap0) := (P0_2.out).cell 2
  go_wp2_with fail
  refine (PrtO.specPartOk_any hd0 vr0 a1 a2 _ _ l0 _ (rdC S_2.out SP.out) K0.out.1 F0.out N0.out J2.out).mono ?_
  rintro e w3 ⟨rfl, hb⟩
  have B3 : Hid (Below w.heap.size w w3) := grow_on B2.out hb
  have Z3 : Hid (w2.heap.size ≤ w3.heap.size) := hb.size
  have P0_3 : Hid (Blk w3 w.heap.size #[.int .i64 hd0, .int .i64 vr0, .slice a0 l0.length cap0] 24) := P0_2.out.grow hb
  have S_3 : Hid (CB w1.heap.size w3 SM l0.length Sr) := S_2.out.grow hb
  clear hb cP00 cP01 cP02
  have cP00 : w3.cell? ⟨w.heap.size, 0, none⟩ = some (.int .i64 hd0) := (P0_3.out).cell 0
  have cP01 : w3.cell? ⟨w.heap.size, 1, none⟩ = some (.int .i64 vr0) := (P0_3.out).cell 1
  have cP02 : w3.cell? ⟨w.heap.size, 2, none⟩ = some (.slice a0 l0.length cap0) := (P0_3.out).cell 2
  go_wp2_with fail
  refine (toPart_any hd0 vr0 a0 cap0 l0 _ (R0.out.below stays_rd B3.out) K0.out.1 K0.out.2.1).mono ?_
  rintro e w4 ⟨⟨XM, Xr, rfl, hA, hP⟩, hb⟩
  have X_4 : Hid (CB w3.heap.size w4 XM l0.length Xr) := hA.down (by first | exact Nat.le_refl _ | simp)
  have XP : Hid (chs Xr = l0) := hP
  have U_X : Hid (w3.heap.size ≤ XM ∧ XM < w4.heap.size) := ⟨X_4.out.at', X_4.out.lt⟩
  clear hA hP
  have B4 : Hid (Below w.heap.size w w4) := grow_on B3.out hb
  have Z4 : Hid (w3.heap.size ≤ w4.heap.size) := hb.size
  have P0_4 : Hid (Blk w4 w.heap.size #[.int .i64 hd0, .int .i64 vr0, .slice a0 l0.length cap0] 24) := P0_3.out.grow hb
  clear hb cP00 cP01 cP02
  have cP00 : (w4.alloc (.cells #[.int .i64 hd0, .int .i64 vr0, .slice (some ⟨XM, 0, none⟩) l0.length l0.length] 29)).cell? ⟨w.heap.size, 0, none⟩ = some (.int .i64 hd0) := (P0_4.out.alloc _).cell 0
  have cP01 : (w4.alloc (.cells #[.int .i64 hd0, .int .i64 vr0, .slice (some ⟨XM, 0, none⟩) l0.length l0.length] 29)).cell? ⟨w.heap.size, 1, none⟩ = some (.int .i64 vr0) := (P0_4.out.alloc _).cell 1
  have cP02 : (w4.alloc (.cells #[.int .i64 hd0, .int .i64 vr0, .slice (some ⟨XM, 0, none⟩) l0.length l0.length] 29)).cell? ⟨w.heap.size, 2, none⟩ = some (.slice a0 l0.length cap0) := (P0_4.out.alloc _).cell 2
  go_wp2_with fail
  refine (PrtO.implPartOk_any hd0 vr0 a1 a2 _ _ l0 _ ((rdC X_4.out XP.out).below stays_rd (Go.Joins.below_alloc1 w4 _)) K0.out.1 F0.out N0.out J2.out).mono ?_
  rintro e w5 ⟨rfl, hb⟩
  have Q0_5 : Hid (Blk w5 w4.heap.size #[.int .i64 hd0, .int .i64 vr0, .slice (some ⟨XM, 0, none⟩) l0.length l0.length] 29) := (Blk.new _ _ _).grow hb
  have U_Q0 : Hid (w4.heap.size ≤ w4.heap.size ∧ w4.heap.size < w5.heap.size) := ⟨Nat.le_refl _, Q0_5.out.lt⟩
  replace hb := grow_on (Go.Joins.below_alloc1 w4 _) hb
  have B5 : Hid (Below w.heap.size w w5) := grow_on B4.out hb
  have Z5 : Hid (w4.heap.size ≤ w5.heap.size) := hb.size
  have P0_5 : Hid (Blk w5 w.heap.size #[.int .i64 hd0, .int .i64 vr0, .slice a0 l0.length cap0] 24) := P0_4.out.grow hb
  have X_5 : Hid (CB w3.heap.size w5 XM l0.length Xr) := X_4.out.grow hb
  clear hb cP00 cP01 cP02
  have cP00 : w5.cell? ⟨w.heap.size, 0, none⟩ = some (.int .i64 hd0) := (P0_5.out).cell 0
  have cP01 : w5.cell? ⟨w.heap.size, 1, none⟩ = some (.int .i64 vr0) := (P0_5.out).cell 1
  have cP02 : w5.cell? ⟨w.heap.size, 2, none⟩ = some (.slice a0 l0.length cap0) := (P0_5.out).cell 2
  have cQ00 : w5.cell? ⟨w4.heap.size, 0, none⟩ = some (.int .i64 hd0) := (Q0_5.out).cell 0
  have cQ01 : w5.cell? ⟨w4.heap.size, 1, none⟩ = some (.int .i64 vr0) := (Q0_5.out).cell 1
  have cQ02 : w5.cell? ⟨w4.heap.size, 2, none⟩ = some (.slice (some ⟨XM, 0, none⟩) l0.length l0.length) := (Q0_5.out).cell 2
  go_wp2
  have kz : Below w5.heap.size w5 w5.drew := (Below.refl _ _).drew
  have kP0 := P0_5.out.lt
  have kQ0 := Q0_5.out.lt
  have HS : Hid (∀ w', Below w5.heap.size w5 w' → Below w5.heap.size w5 w' ∧ w'.cell? ⟨w.heap.size, 0, none⟩ = some (.int .i64 hd0) ∧ w'.cell? ⟨w.heap.size, 1, none⟩ = some (.int .i64 vr0) ∧ w'.cell? ⟨w.heap.size, 2, none⟩ = some (.slice a0 l0.length cap0) ∧ w'.cell? ⟨w4.heap.size, 0, none⟩ = some (.int .i64 hd0) ∧ w'.cell? ⟨w4.heap.size, 1, none⟩ = some (.int .i64 vr0) ∧ w'.cell? ⟨w4.heap.size, 2, none⟩ = some (.slice (some ⟨XM, 0, none⟩) l0.length l0.length)) := fun w' h => ⟨h, (h.cell kP0).trans cP00, (h.cell kP0).trans cP01, (h.cell kP0).trans cP02, (h.cell kQ0).trans cQ00, (h.cell kQ0).trans cQ01, (h.cell kQ0).trans cQ02⟩
  go_region_held3 (fun w' => Below w5.heap.size w5 w' ∧ w'.cell? ⟨w.heap.size, 0, none⟩ = some (.int .i64 hd0) ∧ w'.cell? ⟨w.heap.size, 1, none⟩ = some (.int .i64 vr0) ∧ w'.cell? ⟨w.heap.size, 2, none⟩ = some (.slice a0 l0.length cap0) ∧ w'.cell? ⟨w4.heap.size, 0, none⟩ = some (.int .i64 hd0) ∧ w'.cell? ⟨w4.heap.size, 1, none⟩ = some (.int .i64 vr0) ∧ w'.cell? ⟨w4.heap.size, 2, none⟩ = some (.slice (some ⟨XM, 0, none⟩) l0.length l0.length)) (first | with_reducible exact HS.out _ kz | with_reducible exact HS.out _ (grow_on kz hy0) | with_reducible exact HS.out _ (grow_on (grow_on kz hy0) hy1) | (go_keep; done)) (first | (go_at_call 10; with_reducible refine (toPart_any hd0 vr0 a0 cap0 l0 _ (R0.out.below stays_rd (grow_on B5.out kz)) K0.out.1 K0.out.2.1).mono ?_; rintro e wy ⟨⟨EM, Er, rfl, hA, hP⟩, hy0⟩) | (go_at_call 12; refine (eqPart_any hd0 vr0 _ _ _ _ l0 _ ((rdC X_5.out XP.out).below stays_rd (grow_on kz hy0)) (rdC hA hP) M0.out F0.out).mono ?_; rintro e w6 ⟨rfl, hy1⟩))
  have hb := (grow_on (grow_on kz hy0) hy1)
  have B6 : Hid (Below w.heap.size w w6) := grow_on B5.out hb
  have Z6 : Hid (w5.heap.size ≤ w6.heap.size) := hb.size
  have P0_6 : Hid (Blk w6 w.heap.size #[.int .i64 hd0, .int .i64 vr0, .slice a0 l0.length cap0] 24) := P0_5.out.grow hb
  have X_6 : Hid (CB w3.heap.size w6 XM l0.length Xr) := X_5.out.grow hb
  have Q0_6 : Hid (Blk w6 w4.heap.size #[.int .i64 hd0, .int .i64 vr0, .slice (some ⟨XM, 0, none⟩) l0.length l0.length] 29) := Q0_5.out.grow hb
  clear hb kz HS hy0 hy1 kP0 kQ0 cP00 cP01 cP02 cQ00 cQ01 cQ02 hA hP
  have cP00 : w6.cell? ⟨w.heap.size, 0, none⟩ = some (.int .i64 hd0) := (P0_6.out).cell 0
  have cP01 : w6.cell? ⟨w.heap.size, 1, none⟩ = some (.int .i64 vr0) := (P0_6.out).cell 1
  have cP02 : w6.cell? ⟨w.heap.size, 2, none⟩ = some (.slice a0 l0.length cap0) := (P0_6.out).cell 2
  have cQ00 : w6.cell? ⟨w4.heap.size, 0, none⟩ = some (.int .i64 hd0) := (Q0_6.out).cell 0
  have cQ01 : w6.cell? ⟨w4.heap.size, 1, none⟩ = some (.int .i64 vr0) := (Q0_6.out).cell 1
  have cQ02 : w6.cell? ⟨w4.heap.size, 2, none⟩ = some (.slice (some ⟨XM, 0, none⟩) l0.length l0.length) := (Q0_6.out).cell 2
  go_wp2
  go_ret
  exact ⟨rfl, B6.out⟩
theorem own : ownKnob Try.prog.godebug = none := by kernel_rfl
theorem laidOut : laidOutB Try.prog = true := by kernel_rfl
set_option maxRecDepth 100000 in
theorem lifted (os : Os) (started : os.Started) (H : Type) (enc : TypeId × Value → H) :
    ReturnsInHanded {} Try.checked os 3 .any (Rows.fnExactPartOkSpec.pre6 enc Try.prog Try.f3 Rows.fnExactPartOkRow.domain false) (Rows.fnExactPartOkSpec.post enc Try.prog Try.f3 false true false false) := by
  refine returnsInHanded_of_change (C := Try.checked) own started (by kernel_rfl) Try.func3
    (ChangeSpec.witness6 (enc := enc) (C := Try.checked) false ⟨#[], #[.agg #[.int .i64 0, .int .i64 0, .slice none 0 0], .int .i64 0, .int .i64 0], []⟩ 8 (by kernel_rfl) (by kernel_rfl) (by kernel_rfl) (by kernel_rfl)) ?_
  intro W base args ds gs before hval0 hW hcnd _
  have hval : ∀ (j : Nat) t v, Try.f3.params[j]? = some t → args[j]? = some v → Value.okWide Try.prog W .any base t v := hval0
  have hW' := hW
  obtain ⟨p, q, hA0, hV, rfl, hfz, hnd⟩ := hW
  have hA : DataW.TrodAll enc Try.prog W 0 (fun _ => true) true Try.f3.params.toList args.toList ds p := hA0
  rw [Try.params3] at hA hval
  obtain ⟨v0, vs0, d0, ds0, p0, q0, hargs, rfl, rfl, h0, r0⟩ := trodAll_cons hA
  obtain ⟨v1, vs1, d1, ds1, p1, q1, rfl, rfl, rfl, h1, r1⟩ := trodAll_cons r0
  obtain ⟨v2, vs2, d2, ds2, p2, q2, rfl, rfl, rfl, h2, r2⟩ := trodAll_cons r1
  obtain ⟨rfl, rfl, rfl⟩ := trodAll_nil r2
  obtain rfl : args = #[v0, v1, v2] := by cases args; simp_all
  obtain ⟨rfl, rfl⟩ := trodVars_none hV
  have k0 := h0
  have lt0 : ∀ x ∈ p0, x.block < W.heap.size := by obtain ⟨m, hm⟩ := k0; exact DataW.trod_lt m _ _ _ hm
  obtain ⟨hd0, vr0, a0, cap0, l0, rfl, w0, m0, z0, y0, x0⟩ := Go.Proofs.Ytdbmpaocfmhlhaa.Prt.open_part (hval 0 24 v0 rfl rfl) h0
  obtain ⟨a1, rfl, rfl, rfl, w1⟩ := open_int Try.underlying3 (hval 1 3 v1 rfl rfl) h1
  obtain ⟨a2, rfl, rfl, rfl, w2⟩ := open_int Try.underlying3 (hval 2 3 v2 rfl rfl) h2
  clear hA0 hval0
  refine (walk hd0 vr0 a0 cap0 l0 a1 a2 W w0 m0 z0 y0 x0 w1 w2).mono fun e W' ⟨he, bel⟩ => ?_
  subst he
  exact ⟨_, rfl, _, _, _, [], _, [], hW', trodAll_mk1 (shut_bool Try.underlying4 _), (trodAll_cons_mk (Below.trod laidOut (by kernel_rfl) (of_decide_eq_true (by kernel_rfl)) k0 bel lt0) (trodAll_cons_mk (shut_int Try.underlying3 w1) (trodAll_cons_mk (shut_int Try.underlying3 w2) trodAll_mk0))), rfl, bel.frame _, fun h => by cases h⟩

theorem over : Rows.fnExactPartOkRow.holds Try.pinned (OpenSpec.ofChange Rows.fnExactPartOkSpec) :=
  OpenClaim.holds_of_wide 3 Try.f3 rfl rfl rfl rfl rfl rfl rfl ⟨rfl, rfl, rfl, rfl, rfl⟩ rfl rfl rfl rfl rfl (by kernel_rfl) Try.func3 (by kernel_rfl)
    (of_decide_eq_true (by kernel_rfl)) (by unfold Func.isWrapper; first | (rw [if_pos (by decide +kernel)]; kernel_rfl) | (rw [if_neg (by decide +kernel)]; exact ⟨rfl, rfl⟩))
    (fun os started H enc _ => lifted os started H enc)

end Go.Proofs.Ytdbmpaocfmhlhaa.FnExactPartOk
namespace Go.Proofs.Ytdbmpaocfmhlhaa
theorem fnExactPartOk_holds : Rows.FnExactPartOkSaid := FnExactPartOk.over
#print axioms fnExactPartOk_holds
end Go.Proofs.Ytdbmpaocfmhlhaa
