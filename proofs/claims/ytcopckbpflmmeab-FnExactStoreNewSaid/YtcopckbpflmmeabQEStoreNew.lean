/-
  PROVED: at every number impl.StoreNew answers as spec.StoreNew, and its answer lies in memory of its own, so the law laws.FnExactStoreNew returns true, whatever its argument. No condition.
-/
import Derived.Test.YtcopckbpflmmeabRows
import Derived.WalkKit
import Derived.ProofKit
import Derived.OpenShut
import Derived.ShutString
import Derived.ChangeOld
import Derived.Below
import Derived.WalkLawsBesides
import Derived.WalkSpells
import Derived.Test.YtcopckbpflmmeabQStsN
import Derived.Test.YtcopckbpflmmeabQStsM
import Derived.Deep.RegionHeld3
set_option linter.unusedVariables false
namespace Go.Proofs.Ytcopckbpflmmeab.FnExactStoreNew
open Go.ChangeShapes Go.WideShapes Go.ChangeAt Go.RowKit
open Go.ChangeMaps (open_string shut_string)

open Labs LabS Over Blk Alms Rws ChnC ChnK Chs Prt
open Alm (AlIn)
open LabT (held_reads)
open PrtM (MC blksC blksC_low blksC_high sumM sumM_chs)
theorem len_of {rs : List ARow} {P : List PAl} (h : pals rs = P) : rs.length = P.length := by rw [← pals_len, h]
theorem lenc_of {cs : List CRow} {C : List PCh} (h : chs cs = C) : cs.length = C.length := by rw [← chs_len, h]
theorem eqA_any (M M' c c' lo lo' d d' : Nat) (rs rs' : List ARow) (P : List PAl) (w : World) (h : AB lo w M d rs) (h' : AB lo' w M' d' rs') (hp : pals rs = P) (hp' : pals rs' = P) (hl : P.length ≤ maxLen) (hz : FitsP P) :
    Calls Try.prog 12 #[.slice (some ⟨M, 0, none⟩) rs.length c, .slice (some ⟨M', 0, none⟩) rs'.length c'] w fun e w' => e = .returned (.bool true) ∧ Below w.heap.size w w' := by
  have h1 := h.rd
  have h2 := h'.rd
  rw [hp] at h1
  rw [hp'] at h2
  rw [len_of hp, len_of hp']
  exact Alms.eq_any _ _ c c' P w h1.rd h2.rd hl hz
theorem rng {lo : Nat} {w : World} {M c : Nat} {rs : List ARow} (h : AB lo w M c rs) : ∀ k, blks M rs k → lo ≤ k ∧ k < w.heap.size := fun k hk => ⟨blks_low h k hk, blks_high h k hk⟩
theorem rngC {lo : Nat} {w : World} {M c : Nat} {cs : List CRow} (h : CB lo w M c cs) : ∀ k, blksC M cs k → lo ≤ k ∧ k < w.heap.size := fun k hk => ⟨blksC_low h k hk, blksC_high h k hk⟩
theorem row_len {lo : Nat} {w : World} {M c : Nat} {rs : List ARow} (h : AB lo w M c rs) : ∀ x ∈ rs, x.2.2.l.length ≤ 1048576 := fun x hx => (h.rows x hx).2.1
theorem rowC_len {lo : Nat} {w : World} {M c : Nat} {cs : List CRow} {C : List PCh} (h : CB lo w M c cs) (hp : chs cs = C) (hs : sumC C ≤ 2000000) : ∀ x ∈ cs, x.rs.length ≤ 2000000 ∧ ∀ y ∈ x.rs, y.2.2.l.length ≤ 1048576 := fun x hx => by
  refine ⟨?_, row_len (h.rows.rows x hx)⟩
  have hm : x.ch ∈ C := by rw [← hp]; exact List.mem_map.2 ⟨x, hx, rfl⟩
  have h1 := sumC_mem hm
  have h2 := pals_len x.rs
  have h3 : x.ch.P = pals x.rs := rfl
  rw [h3] at h1
  omega
theorem marksC {cs : List CRow} {C : List PCh} (hp : chs cs = C) (hl : C.length ≤ 1100000) (hs : sumC C ≤ 2200000) : 1 + sumM cs ≤ 8000000 := by
  have h1 := sumM_chs cs
  rw [hp, lenc_of hp] at h1
  omega
open Sts
open StsM (MP blksS blksS_low blksS_high sumQ sumQ_pts Fine8 fine8 pb_only)
theorem rngS {lo : Nat} {w : World} {M c : Nat} {ps : List PRow} (h : PB lo w M c ps) : ∀ k, blksS M ps k → lo ≤ k ∧ k < w.heap.size := fun k hk => ⟨blksS_low h k hk, blksS_high h k hk⟩
theorem lent_of {ps : List PRow} {S : List PPt} (h : pts ps = S) : ps.length = S.length := by rw [← pts_len, h]
theorem marksT {ps : List PRow} {S : List PPt} (hp : pts ps = S) (hl : S.length ≤ 1100000) (hs : sumT S ≤ 1200000) : 1 + sumQ ps ≤ 8000000 := by
  have h1 := sumQ_pts ps
  rw [hp, lent_of hp] at h1
  omega
open StsN
theorem rnT {lo : Nat} {w : World} {M c : Nat} {ps : List PRow} {S : List PPt} (h : PB lo w M c ps) (hp : pts ps = S) : RdS RdN w (some ⟨M, 0, none⟩) S := by have := h.rn; rwa [hp] at this
theorem rdT {lo : Nat} {w : World} {M c : Nat} {ps : List PRow} {S : List PPt} (h : PB lo w M c ps) (hp : pts ps = S) : RdS RdA w (some ⟨M, 0, none⟩) S := (rnT h hp).rd
set_option maxRecDepth 100000 in
set_option maxHeartbeats 4000000 in
theorem walk (a0 : Int) (w : World) (z0 : (Lit.int .i64 a0).wf = true) :
    Calls Try.prog 5 #[.int .i64 a0] w fun e w' => e = .returned (.bool true) ∧ Below w.heap.size w w' := by
  have J0 : Hid (I64 a0) := Go.bounds_i64 z0
  clear z0
  have B0 : Hid (Below w.heap.size w w) := Below.refl _ _
  go_enter Try.func5, Try.ntmps5
  have NL : Hid (1 ≤ newN a0 ∧ newN a0 ≤ 3 ∧ sumT (newS a0) = 0 ∧ (newS a0).length = newN a0 ∧ FitsT (newS a0)) := ⟨(newN_le a0).1, (newN_le a0).2, none_sum _, new_len a0, none_fits _⟩
  go_wp2_with fail
  refine (specNew_any a0 _ J0.out).mono ?_
  rintro e w1 ⟨⟨WM, Wc, rfl, hA⟩, hb⟩
  have W_1 : Hid (PB w.heap.size w1 WM Wc (List.replicate (newN a0) noneR)) := hA
  have WP : Hid (pts (List.replicate (newN a0) noneR) = newS a0) := none_pts _
  have WR : Hid (∀ k, blksS WM (List.replicate (newN a0) noneR) k → w.heap.size ≤ k ∧ k < w1.heap.size) := rngS hA
  clear hA
  have B1 : Hid (Below w.heap.size w w1) := grow_on B0.out hb
  have Z1 : Hid (w.heap.size ≤ w1.heap.size) := hb.size
  clear hb
  go_wp2_with fail
  refine (implNew_any a0 _ J0.out).mono ?_
  rintro e w2 ⟨⟨GM, rfl, Gr, hA, hP, hO⟩, hb⟩
  have G_2 : Hid (PB w1.heap.size w2 GM (newN a0) Gr) := hA
  have GP : Hid (pts Gr = newS a0 ∧ Own8 Gr) := ⟨hP, hO⟩
  have GR : Hid (∀ k, blksS GM Gr k → w1.heap.size ≤ k ∧ k < w2.heap.size) := rngS hA
  clear hA hP hO
  have B2 : Hid (Below w.heap.size w w2) := grow_on B1.out hb
  have Z2 : Hid (w1.heap.size ≤ w2.heap.size) := hb.size
  have W_2 : Hid (PB w.heap.size w2 WM Wc (List.replicate (newN a0) noneR)) := W_1.out.grow hb
  clear hb
  have hE2 : Hid (Calls Try.prog 21 #[.slice (some ⟨GM, 0, none⟩) (newN a0) (newN a0), .slice (some ⟨WM, 0, none⟩) (newN a0) Wc] w2 fun e w' => e = .returned (.bool true) ∧ Below w2.heap.size w2 w') := by
    have h := eqPS_any (some ⟨GM, 0, none⟩) (some ⟨WM, 0, none⟩) (newN a0) Wc (newS a0) w2 (rdT G_2.out GP.out.1) (rdT W_2.out WP.out) (by rw [NL.out.2.2.2.1]; have := NL.out.2.1; unfold maxLen; omega) NL.out.2.2.2.2
    rw [NL.out.2.2.2.1] at h
    exact h
  go_wp2_with fail
  refine (hE2.out).mono ?_
  rintro e w3 ⟨rfl, hb⟩
  have B3 : Hid (Below w.heap.size w w3) := grow_on B2.out hb
  have Z3 : Hid (w2.heap.size ≤ w3.heap.size) := hb.size
  have W_3 : Hid (PB w.heap.size w3 WM Wc (List.replicate (newN a0) noneR)) := W_2.out.grow hb
  have G_3 : Hid (PB w1.heap.size w3 GM (newN a0) Gr) := G_2.out.grow hb
  clear hb hE2
  have GL : Hid (Gr.length = newN a0) := by have := lent_of GP.out.1; rw [NL.out.2.2.2.1] at this; exact this
  have GS : Hid (1 + sumQ Gr ≤ 8000000) := marksT GP.out.1 (by have := NL.out; omega) (by have := NL.out; omega)
  have GF : Hid (Fine8 Gr) := fine8 G_3.out GP.out.1 (by have := NL.out; omega)
  have hGM : Hid (Calls Try.prog 22 #[.slice (some ⟨GM, 0, none⟩) (newN a0) (newN a0), .int .i64 1] w3 fun e w' => e = .returned (.int .i64 ((1 + sumQ Gr : Nat) : Int)) ∧ MP w' GM Gr 1 Gr.length ∧ Only (blksS GM Gr) w3 w') := by
    have h := StsM.markPS_any GM (newN a0) 1 _ (newN a0) Gr w3 G_3.out GP.out.2 (by rw [GL.out]; have := NL.out; omega) GF.out (by omega) (by have := GS.out; omega)
    rw [GL.out] at h ⊢
    exact h
  have HO8 : Hid (Own8 Gr) := GP.out.2
  go_wp2_with fail
  refine (hGM.out).mono ?_
  rintro e w4 ⟨rfl, hm, ho⟩
  have B4 : Hid (Below w.heap.size w w4) := B3.out.trans (ho.low (fun k hk => by have hx := GR.out k hk; have hw := B1.out.size; omega) B3.out.size)
  have Z4 : Hid (w3.heap.size ≤ w4.heap.size) := ho.size
  have W_4 : Hid (PB w.heap.size w4 WM Wc (List.replicate (newN a0) noneR)) := pb_only W_3.out ho (fun k hk hs => by have hx := GR.out k hs; have hy := WR.out k hk; have h0 := Z1.out; have h1 := Z2.out; have h2 := Z3.out; have h3 := Z4.out; omega)
  have H_4 : Hid (MP w4 GM Gr 1 Gr.length) := hm
  clear hm
  clear ho 
  have hH4 : Hid (Calls Try.prog 23 #[.slice (some ⟨GM, 0, none⟩) (newN a0) (newN a0), .int .i64 1] w4 fun e w' => e = .returned (.int .i64 ((1 + sumQ Gr : Nat) : Int)) ∧ Below w4.heap.size w4 w') := by
    have h := StsM.heldPS_any GM 1 (newN a0) Gr w4 H_4.out GF.out (by rw [GL.out]; have := NL.out; omega) (by omega) (by have := GS.out; omega)
    rw [GL.out] at h
    exact h
  have hq : ¬ ((1 + sumQ Gr : Nat) : Int) < 0 := by omega
  go_wp2_with fail
  refine (hH4.out).mono ?_
  rintro e w5 ⟨rfl, hb⟩
  have B5 : Hid (Below w.heap.size w w5) := grow_on B4.out hb
  have Z5 : Hid (w4.heap.size ≤ w5.heap.size) := hb.size
  have W_5 : Hid (PB w.heap.size w5 WM Wc (List.replicate (newN a0) noneR)) := W_4.out.grow hb
  have H_5 : Hid (MP w5 GM Gr 1 Gr.length) := H_4.out.grow hb
  clear hb hH4
  go_wp2_with fail
  refine (implNew_any a0 _ J0.out).mono ?_
  rintro e w6 ⟨⟨VM, rfl, Vr, hA, hP, hO⟩, hb⟩
  have V_6 : Hid (PB w5.heap.size w6 VM (newN a0) Vr) := hA
  have VP : Hid (pts Vr = newS a0 ∧ Own8 Vr) := ⟨hP, hO⟩
  have VR : Hid (∀ k, blksS VM Vr k → w5.heap.size ≤ k ∧ k < w6.heap.size) := rngS hA
  clear hA hP hO
  have B6 : Hid (Below w.heap.size w w6) := grow_on B5.out hb
  have Z6 : Hid (w5.heap.size ≤ w6.heap.size) := hb.size
  have W_6 : Hid (PB w.heap.size w6 WM Wc (List.replicate (newN a0) noneR)) := W_5.out.grow hb
  have H_6 : Hid (MP w6 GM Gr 1 Gr.length) := H_5.out.grow hb
  clear hb
  have hE6 : Hid (Calls Try.prog 21 #[.slice (some ⟨VM, 0, none⟩) (newN a0) (newN a0), .slice (some ⟨WM, 0, none⟩) (newN a0) Wc] w6 fun e w' => e = .returned (.bool true) ∧ Below w6.heap.size w6 w') := by
    have h := eqPS_any (some ⟨VM, 0, none⟩) (some ⟨WM, 0, none⟩) (newN a0) Wc (newS a0) w6 (rdT V_6.out VP.out.1) (rdT W_6.out WP.out) (by rw [NL.out.2.2.2.1]; have := NL.out.2.1; unfold maxLen; omega) NL.out.2.2.2.2
    rw [NL.out.2.2.2.1] at h
    exact h
  go_wp2_with fail
  refine (hE6.out).mono ?_
  rintro e w7 ⟨rfl, hb⟩
  have B7 : Hid (Below w.heap.size w w7) := grow_on B6.out hb
  have Z7 : Hid (w6.heap.size ≤ w7.heap.size) := hb.size
  have W_7 : Hid (PB w.heap.size w7 WM Wc (List.replicate (newN a0) noneR)) := W_6.out.grow hb
  have H_7 : Hid (MP w7 GM Gr 1 Gr.length) := H_6.out.grow hb
  have V_7 : Hid (PB w5.heap.size w7 VM (newN a0) Vr) := V_6.out.grow hb
  clear hb hE6
  have hH7 : Hid (Calls Try.prog 23 #[.slice (some ⟨GM, 0, none⟩) (newN a0) (newN a0), .int .i64 1] w7 fun e w' => e = .returned (.int .i64 ((1 + sumQ Gr : Nat) : Int)) ∧ Below w7.heap.size w7 w') := by
    have h := StsM.heldPS_any GM 1 (newN a0) Gr w7 H_7.out GF.out (by rw [GL.out]; have := NL.out; omega) (by omega) (by have := GS.out; omega)
    rw [GL.out] at h
    exact h
  have hq : ¬ ((1 + sumQ Gr : Nat) : Int) < 0 := by omega
  go_wp2_with fail
  refine (hH7.out).mono ?_
  rintro e w8 ⟨rfl, hb⟩
  have B8 : Hid (Below w.heap.size w w8) := grow_on B7.out hb
  have Z8 : Hid (w7.heap.size ≤ w8.heap.size) := hb.size
  have W_8 : Hid (PB w.heap.size w8 WM Wc (List.replicate (newN a0) noneR)) := W_7.out.grow hb
  have H_8 : Hid (MP w8 GM Gr 1 Gr.length) := H_7.out.grow hb
  have V_8 : Hid (PB w5.heap.size w8 VM (newN a0) Vr) := V_7.out.grow hb
  clear hb hH7
  go_wp2
  go_ret
  exact ⟨rfl, B8.out⟩
theorem own : ownKnob Try.prog.godebug = none := by kernel_rfl
theorem laidOut : laidOutB Try.prog = true := by kernel_rfl
set_option maxRecDepth 100000 in
theorem lifted (os : Os) (started : os.Started) (H : Type) (enc : TypeId × Value → H) :
    ReturnsInHanded {} Try.checked os 5 .any (Rows.fnExactStoreNewSpec.pre6 enc Try.prog Try.f5 Rows.fnExactStoreNewRow.domain false) (Rows.fnExactStoreNewSpec.post enc Try.prog Try.f5 false true false false) := by
  refine returnsInHanded_of_change (C := Try.checked) own started (by kernel_rfl) Try.func5
    (ChangeSpec.witness6 (enc := enc) (C := Try.checked) false ⟨#[], #[.int .i64 0], []⟩ 8 (by kernel_rfl) (by kernel_rfl) (by kernel_rfl) (by kernel_rfl)) ?_
  intro W base args ds gs before hval0 hW hcnd _
  have hval : ∀ (j : Nat) t v, Try.f5.params[j]? = some t → args[j]? = some v → Value.okWide Try.prog W .any base t v := hval0
  have hW' := hW
  obtain ⟨p, q, hA0, hV, rfl, hfz, hnd⟩ := hW
  have hA : DataW.TrodAll enc Try.prog W 0 (fun _ => true) true Try.f5.params.toList args.toList ds p := hA0
  rw [Try.params5] at hA hval
  obtain ⟨v0, vs0, d0, ds0, p0, q0, hargs, rfl, rfl, h0, r0⟩ := trodAll_cons hA
  obtain ⟨rfl, rfl, rfl⟩ := trodAll_nil r0
  obtain rfl : args = #[v0] := by cases args; simp_all
  obtain ⟨rfl, rfl⟩ := trodVars_none hV
  obtain ⟨a0, rfl, rfl, rfl, w0⟩ := open_int Try.underlying3 (hval 0 3 v0 rfl rfl) h0
  clear hA0 hval0
  refine (walk a0 W w0).mono fun e W' ⟨he, bel⟩ => ?_
  subst he
  exact ⟨_, rfl, _, _, _, [], _, [], hW', trodAll_mk1 (shut_bool Try.underlying4 _), (trodAll_cons_mk (shut_int Try.underlying3 w0) trodAll_mk0), rfl, bel.frame _, fun h => by cases h⟩

theorem over : Rows.fnExactStoreNewRow.holds Try.pinned (OpenSpec.ofChange Rows.fnExactStoreNewSpec) :=
  OpenClaim.holds_of_wide 5 Try.f5 rfl rfl rfl rfl rfl rfl rfl ⟨rfl, rfl, rfl, rfl, rfl⟩ rfl rfl rfl rfl rfl (by kernel_rfl) Try.func5 (by kernel_rfl)
    (of_decide_eq_true (by kernel_rfl)) (by unfold Func.isWrapper; first | (rw [if_pos (by decide +kernel)]; kernel_rfl) | (rw [if_neg (by decide +kernel)]; exact ⟨rfl, rfl⟩))
    (fun os started H enc _ => lifted os started H enc)

end Go.Proofs.Ytcopckbpflmmeab.FnExactStoreNew
namespace Go.Proofs.Ytcopckbpflmmeab
theorem fnExactStoreNew_holds : Rows.FnExactStoreNewSaid := FnExactStoreNew.over
#print axioms fnExactStoreNew_holds
end Go.Proofs.Ytcopckbpflmmeab
