/-
  PROVED: whatever the code, the law laws.FnHeards returns true and leaves the code as it was: of what is told to a drawn listener that is not behind all is heard, if it is not too much; impl.Heard answers as the specification has it. No condition.
-/
import Derived.Test.YtdmhccheaemkkaaRows
import Derived.WalkKit
import Derived.ProofKit
import Derived.OpenShut
import Derived.ShutString
import Derived.ChangeOld
import Derived.Below
import Derived.WalkLawsBesides
import Derived.WalkSpells
import Derived.Test.YtdmhccheaemkkaaSubZ
import Derived.Deep.RegionHeld3
namespace Go.Proofs.Ytdmhccheaemkkaa.FnHeards
open Go.ChangeShapes Go.WideShapes Go.ChangeAt Go.RowKit
open Go.ChangeMaps (open_string shut_string)
set_option linter.unusedVariables false

open Go.Proofs.Ytdmhccheaemkkaa.Labs Go.Proofs.Ytdmhccheaemkkaa.LabS Go.Proofs.Ytdmhccheaemkkaa.Draw Go.Proofs.Ytdmhccheaemkkaa.LawB Go.Proofs.Ytdmhccheaemkkaa.Over Go.Proofs.Ytdmhccheaemkkaa.Blk Go.Proofs.Ytdmhccheaemkkaa.Alms Go.Proofs.Ytdmhccheaemkkaa.AlmS Go.Proofs.Ytdmhccheaemkkaa.Rws Go.Proofs.Ytdmhccheaemkkaa.ChnI Go.Proofs.Ytdmhccheaemkkaa.ChnC Go.Proofs.Ytdmhccheaemkkaa.Chs Go.Proofs.Ytdmhccheaemkkaa.DrawC Go.Proofs.Ytdmhccheaemkkaa.Que Go.Proofs.Ytdmhccheaemkkaa.Tel Go.Proofs.Ytdmhccheaemkkaa.Her Go.Proofs.Ytdmhccheaemkkaa.Hrd Go.Proofs.Ytdmhccheaemkkaa.DrawQ Go.Proofs.Ytdmhccheaemkkaa.SubZ
open Go.Proofs.Ytdmhccheaemkkaa.Sub (subB implSubOk_any)
set_option linter.unusedVariables false

set_option maxRecDepth 100000 in
set_option maxHeartbeats 40000000 in
theorem core (a : Option Addr) (len cap : Nat) (w : World) (hl : len ≤ maxLen) (hb : Bytes w a len w.heap.size) :
    Calls Try.prog 4 #[.slice a len cap] w fun e w' => e = .returned (.bool true) ∧ Below w.heap.size w w' := by
  have HB : Hid (Bytes w a len w.heap.size) := hb
  have HL : Hid (len ≤ maxLen) := hl
  clear hb hl
  by_cases hbig : (1048576 : Int) < (len : Int)
  · have HC : Hid (Calls Try.prog 9 #[.slice a len cap] w fun e w' => e = .returned (.bool true) ∧ w' = w) := (big_any a len cap w HL.out).mono fun e w' h => ⟨h.1.trans (retB (decide_eq_true hbig)), h.2⟩
    go_enter Try.func4, Try.ntmps4
    go_wp2_with fail
    refine HC.out.mono ?_
    rintro e w1 ⟨rfl, rfl⟩
    go_wp2
    go_ret
    exact ⟨rfl, Below.refl _ _⟩
  have HC : Hid (Calls Try.prog 9 #[.slice a len cap] w fun e w' => e = .returned (.bool false) ∧ w' = w) := (big_any a len cap w HL.out).mono fun e w' h => ⟨h.1.trans (retB (decide_eq_false hbig)), h.2⟩
  go_enter Try.func4, Try.ntmps4
  go_wp2_with fail
  refine HC.out.mono ?_
  rintro e wq ⟨rfl, hw⟩
  obtain rfl := hw.symm
  clear HC hw
  have B_z0 : Hid (Below w.heap.size w w) := Below.refl _ _
  go_upto_region 3 with fail
  go_wp2_with fail
  refine (drawHeard_any a len cap _ HL.out HB.out).mono ?_
  rintro e w1 ⟨⟨Ml, cl, l, aS, cs, P, gs, rfl, hl, hlf, hl5, hP⟩, hb⟩
  have FP : Hid (Fines P ∧ P.length ≤ 4 ∧ Fines l ∧ l.length ≤ 5) := ⟨hP.2.1, hP.2.2.1, hlf, hl5⟩
  obtain ⟨H, hH⟩ : ∃ H, heardB l P gs = H := ⟨_, rfl⟩
  have EH : Hid (heardB l P gs = H) := hH
  have FH : Hid (Fines H ∧ H.length ≤ 4) := by rw [← hH]; exact heard_few hP.2.1 hlf hP.2.2.1
  clear hH hlf hl5
  have NDP : Hid (DQ w1 aS cs P) := hP
  have NRL : Hid (RdN w1 (some ⟨Ml, 0, none⟩) l) := hl
  have B_w1 : Hid (Below w.heap.size w w1) := hb
  clear B_z0
  have DP_w1 : Hid (DQ w1 aS cs P) := NDP.out
  clear NDP
  have RL_w1 : Hid (RdN w1 (some ⟨Ml, 0, none⟩) l) := NRL.out
  clear NRL
  clear hb
  go_upto_region 4 with fail
  generalize hz : w1.alloc (.cells #[.slice aS P.length cs, .bool gs] 26) = z1
  have hbz : Below w1.heap.size w1 z1 := by rw [← hz]; exact Go.Joins.below_alloc1 w1 _
  have bS_z1 : Hid (Blk z1 w1.heap.size #[.slice aS P.length cs, .bool gs] 26) := by rw [← hz]; exact (Blk.new _ _ _)
  clear hz
  have B_z1 : Hid (Below w.heap.size w z1) := grow_on B_w1.out hbz
  have DP_z1 : Hid (DQ z1 aS cs P) := DP_w1.out.below hbz
  have RL_z1 : Hid (RdN z1 (some ⟨Ml, 0, none⟩) l) := RL_w1.out.below hbz
  clear B_w1 DP_w1 RL_w1
  clear hbz
  have cbS0 : z1.cell? ⟨w1.heap.size, 0, none⟩ = some (.slice aS P.length cs) := bS_z1.out.cell 0
  have cbS1 : z1.cell? ⟨w1.heap.size, 1, none⟩ = some (.bool gs) := bS_z1.out.cell 1
  go_wp2_with fail
  refine (implHeardZ RL_z1.out FP.out.2.2.1 FP.out.2.2.2 DP_z1.out EH.out).mono ?_
  rintro e w2 ⟨⟨Mh, ch, rfl, hr, hc1, hc2⟩, hb⟩
  clear cbS0 cbS1
  have FC : Hid (H.length ≤ ch ∧ ch ≤ maxLen) := ⟨hc1, hc2⟩
  clear hc1 hc2
  have NRH : Hid (RdN w2 (some ⟨Mh, 0, none⟩) H) := hr
  have B_w2 : Hid (Below w.heap.size w w2) := grow_on B_z1.out hb
  have DP_w2 : Hid (DQ w2 aS cs P) := DP_z1.out.below hb
  have RL_w2 : Hid (RdN w2 (some ⟨Ml, 0, none⟩) l) := RL_z1.out.below hb
  have bS_w2 : Hid (Blk w2 w1.heap.size #[.slice aS P.length cs, .bool gs] 26) := bS_z1.out.grow hb
  clear B_z1 DP_z1 RL_z1 bS_z1
  have RH_w2 : Hid (RdN w2 (some ⟨Mh, 0, none⟩) H) := NRH.out
  clear NRH
  clear hb
  go_upto_region 5 with fail
  have cbS0 : w2.cell? ⟨w1.heap.size, 0, none⟩ = some (.slice aS P.length cs) := bS_w2.out.cell 0
  have cbS1 : w2.cell? ⟨w1.heap.size, 1, none⟩ = some (.bool gs) := bS_w2.out.cell 1
  go_wp2_with fail
  refine (specHeardZ RL_w2.out FP.out.2.2.1 FP.out.2.2.2 DP_w2.out EH.out).mono ?_
  rintro e w9 ⟨⟨Mg, cg, rfl, hr⟩, hb⟩
  clear cbS0 cbS1
  have RG_w9 : Hid (RdN w9 (some ⟨Mg, 0, none⟩) H) := hr
  clear hr
  have B_w9 : Hid (Below w.heap.size w w9) := grow_on B_w2.out hb
  have DP_w9 : Hid (DQ w9 aS cs P) := DP_w2.out.below hb
  have RL_w9 : Hid (RdN w9 (some ⟨Ml, 0, none⟩) l) := RL_w2.out.below hb
  have bS_w9 : Hid (Blk w9 w1.heap.size #[.slice aS P.length cs, .bool gs] 26) := bS_w2.out.grow hb
  have RH_w9 : Hid (RdN w9 (some ⟨Mh, 0, none⟩) H) := RH_w2.out.below hb
  clear B_w2 DP_w2 RL_w2 bS_w2 RH_w2
  clear hb
  have CL : Hid (Calls Try.prog 27 #[.slice (some ⟨Mh, 0, none⟩) H.length ch, .slice (some ⟨Mg, 0, none⟩) H.length cg] w9 fun e w' => e = .returned (.bool true) ∧ Below w9.heap.size w9 w') := sameListZ RH_w9.out.rd RG_w9.out.rd (by have := FH.out.2; omega) (finesP FH.out.1)
  go_wp2_with fail
  refine CL.out.mono ?_
  rintro e w10 ⟨rfl, hb⟩
  clear CL
  clear RG_w9
  have B_w10 : Hid (Below w.heap.size w w10) := grow_on B_w9.out hb
  have DP_w10 : Hid (DQ w10 aS cs P) := DP_w9.out.below hb
  have RL_w10 : Hid (RdN w10 (some ⟨Ml, 0, none⟩) l) := RL_w9.out.below hb
  have bS_w10 : Hid (Blk w10 w1.heap.size #[.slice aS P.length cs, .bool gs] 26) := bS_w9.out.grow hb
  have RH_w10 : Hid (RdN w10 (some ⟨Mh, 0, none⟩) H) := RH_w9.out.below hb
  clear B_w9 DP_w9 RL_w9 bS_w9 RH_w9
  clear hb
  have CO : Hid (Calls Try.prog 21 #[.agg #[.slice none 0 0, .bool false]] w10 fun e w' => e = .returned (.bool true) ∧ Below w10.heap.size w10 w') := (implSubOk_any false none 0 [] w10 (.inl rfl) (fun i hi => by simp at hi) (by simp)).mono fun e w' h => ⟨h.1.trans (retB rfl), h.2⟩
  go_wp2_with fail
  refine CO.out.mono ?_
  rintro e w11 ⟨rfl, hb⟩
  clear CO
  have B_w11 : Hid (Below w.heap.size w w11) := grow_on B_w10.out hb
  have DP_w11 : Hid (DQ w11 aS cs P) := DP_w10.out.below hb
  have RL_w11 : Hid (RdN w11 (some ⟨Ml, 0, none⟩) l) := RL_w10.out.below hb
  have bS_w11 : Hid (Blk w11 w1.heap.size #[.slice aS P.length cs, .bool gs] 26) := bS_w10.out.grow hb
  have RH_w11 : Hid (RdN w11 (some ⟨Mh, 0, none⟩) H) := RH_w10.out.below hb
  clear B_w10 DP_w10 RL_w10 bS_w10 RH_w10
  clear hb
  have hP4 := FP.out.2.1
  have hl5 := FP.out.2.2.2
  have hw : IntKind.i64.wrap ((P.length : Int) + (l.length : Int)) = (P.length : Int) + (l.length : Int) := by rw [IntKind.wrap_i64]; omega
  have cbS0 : w11.cell? ⟨w1.heap.size, 0, none⟩ = some (.slice aS P.length cs) := bS_w11.out.cell 0
  have cbS1 : w11.cell? ⟨w1.heap.size, 1, none⟩ = some (.bool gs) := bS_w11.out.cell 1
  by_cases hq : gs = false ∧ P.length + l.length ≤ 3
  ·
    obtain ⟨rfl, h3⟩ := hq
    have h3' : (P.length : Int) + (l.length : Int) ≤ 3 := by omega
    have HE : Hid (P ++ l = H) := by have h := EH.out; rw [heard_all rfl h3] at h; exact h
    have hn : H.length = P.length + l.length := by rw [← HE.out]; simp
    have HN : Hid (H.length = P.length + l.length) := hn
    have RL2 : Hid (RdA w11 (some ⟨Mh, 0 + P.length * 4, none⟩) l) := rd_drop (by rw [HE.out]; exact RH_w11.out.rd)
    have hi1 : P.length ≤ H.length := by omega
    have hi2 : P.length ≤ ch := by have := FC.out.1; omega
    have hi3 : H.length ≤ ch := FC.out.1
    have he : ((H.length : Int) == (P.length : Int) + (l.length : Int)) = true := by simp; omega
    have hs : ((H.length : Int) - (P.length : Int)) = (l.length : Int) := by omega
    have hs2 : H.length - P.length = l.length := by omega
    have CL : Hid (∀ (o : Nat) c, Calls Try.prog 27 #[.slice (some ⟨Mh, P.length * 4, none⟩) l.length c, .slice (some ⟨Ml, 0, none⟩) l.length cl] w11 fun e w' => e = .returned (.bool true) ∧ Below w11.heap.size w11 w') := fun o c => sameListZ (by have := RL2.out; rwa [Nat.zero_add] at this) RL_w11.out.rd (by have := FP.out.2.2.2; omega) (finesP FP.out.2.2.1)
    clear hn
    have CL0 : Hid (ch = P.length → ∀ c, Calls Try.prog 27 #[.slice (some ⟨Mh, 0, none⟩) l.length c, .slice (some ⟨Ml, 0, none⟩) l.length cl] w11 fun e w' => e = .returned (.bool true) ∧ Below w11.heap.size w11 w') := fun h c => sameListZ (.inl (List.eq_nil_of_length_eq_zero (by have := FC.out.1; have := HN.out; omega))) RL_w11.out.rd (by have := FP.out.2.2.2; omega) (finesP FP.out.2.2.1)
    go_wp2_with fail
    ·
      refine (CL0.out h _).mono ?_
      rintro e wl ⟨rfl, hb⟩
      have HBZ : Hid (Below w.heap.size w wl) := grow_on B_w11.out hb
      clear hb CL CL0 hs hs2 he hi1 hi2 hi3 h3 h3' hw hP4 hl5 HE HN RL2 cbS0 cbS1 DP_w11 RL_w11 bS_w11 RH_w11 B_w11 FP EH FH FC HL HB
      go_wp2
      go_ret
      exact ⟨rfl, HBZ.out⟩
    ·
      refine (CL.out 0 _).mono ?_
      rintro e wl ⟨rfl, hb⟩
      have HBZ : Hid (Below w.heap.size w wl) := grow_on B_w11.out hb
      clear hb CL CL0 hs hs2 he hi1 hi2 hi3 h3 h3' hw hP4 hl5 HE HN RL2 cbS0 cbS1 DP_w11 RL_w11 bS_w11 RH_w11 B_w11 FP EH FH FC HL HB
      go_wp2
      go_ret
      exact ⟨rfl, HBZ.out⟩
  ·
    by_cases hl0 : l = []
    ·
      have h9 : gs = true ∨ (gs = false ∧ ¬ ((P.length : Int) + (l.length : Int) ≤ 3)) := by
        cases gs with
        | true => exact .inl rfl
        | false => exact .inr ⟨rfl, fun h => hq ⟨rfl, by omega⟩⟩
      clear hq
      have hll : ((l.length : Int) == 0) = true := by rw [hl0]; rfl
      clear hl0
      rcases h9 with rfl | ⟨rfl, h9⟩
      ·
        have HBZ : Hid (Below w.heap.size w w11) := B_w11.out
        clear DP_w11 RL_w11 bS_w11 RH_w11 B_w11 FP EH FH FC HL HB
        generalize H.length = nh at *
        generalize l.length = nl at *
        generalize P.length = np at *
        go_wp2
        go_ret
        exact ⟨rfl, HBZ.out⟩
      ·
        have HBZ : Hid (Below w.heap.size w w11) := B_w11.out
        clear DP_w11 RL_w11 bS_w11 RH_w11 B_w11 FP EH FH FC HL HB
        generalize H.length = nh at *
        generalize l.length = nl at *
        generalize P.length = np at *
        go_wp2
        go_ret
        exact ⟨rfl, HBZ.out⟩
    ·
      have hhl : ((H.length : Int) == 0) = true := by
        have h := EH.out; rw [heard_none hq hl0] at h; rw [← h]; rfl
      have h9 : gs = true ∨ (gs = false ∧ ¬ ((P.length : Int) + (l.length : Int) ≤ 3)) := by
        cases gs with
        | true => exact .inl rfl
        | false => exact .inr ⟨rfl, fun h => hq ⟨rfl, by omega⟩⟩
      clear hq
      have hll : ((l.length : Int) == 0) = false := by cases l with
        | nil => exact absurd rfl hl0
        | cons y l => simp; omega
      clear hl0
      rcases h9 with rfl | ⟨rfl, h9⟩
      ·
        have HBZ : Hid (Below w.heap.size w w11) := B_w11.out
        clear DP_w11 RL_w11 bS_w11 RH_w11 B_w11 FP EH FH FC HL HB
        generalize H.length = nh at *
        generalize l.length = nl at *
        generalize P.length = np at *
        go_wp2
        go_ret
        exact ⟨rfl, HBZ.out⟩
      ·
        have HBZ : Hid (Below w.heap.size w w11) := B_w11.out
        clear DP_w11 RL_w11 bS_w11 RH_w11 B_w11 FP EH FH FC HL HB
        generalize H.length = nh at *
        generalize l.length = nl at *
        generalize P.length = np at *
        go_wp2
        go_ret
        exact ⟨rfl, HBZ.out⟩

theorem walk (a : Option Addr) (len cap : Nat) (zs : List Int) (w : World) (h : IsRow .u8 w a len cap zs) :
    Calls Try.prog 4 #[.slice a len cap] w fun e w' => e = .returned (.bool true) ∧ Below w.heap.size w w' := by
  obtain ⟨hl, hb⟩ := bytes_of h
  exact core a len cap w hl hb
theorem own : ownKnob Try.prog.godebug = none := by kernel_rfl
theorem laidOut : laidOutB Try.prog = true := by kernel_rfl
set_option maxRecDepth 100000 in
theorem lifted (os : Os) (started : os.Started) (H : Type) (enc : TypeId × Value → H) :
    ReturnsInHanded {} Try.checked os 4 .any (Rows.fnHeardsSpec.pre6 enc Try.prog Try.f4 Rows.fnHeardsRow.domain false) (Rows.fnHeardsSpec.post enc Try.prog Try.f4 false true false false) := by
  refine returnsInHanded_of_change (C := Try.checked) own started (by kernel_rfl) Try.func4
    (ChangeSpec.witness6 (enc := enc) (C := Try.checked) false ⟨#[], #[.slice none 0 0], []⟩ 8 (by kernel_rfl) (by kernel_rfl) (by kernel_rfl) (by kernel_rfl)) ?_
  intro W base args ds gs before hval0 hW hcnd _
  have hval : ∀ (j : Nat) t v, Try.f4.params[j]? = some t → args[j]? = some v → Value.okWide Try.prog W .any base t v := hval0
  have hW' := hW
  obtain ⟨p, q, hA0, hV, rfl, hfz, hnd⟩ := hW
  have hA : DataW.TrodAll enc Try.prog W 0 (fun _ => true) true Try.f4.params.toList args.toList ds p := hA0
  rw [Try.params4] at hA hval
  obtain ⟨v0, vs0, d0, ds0, p0, q0, hargs, rfl, rfl, h0, r0⟩ := trodAll_cons hA
  obtain ⟨rfl, rfl, rfl⟩ := trodAll_nil r0
  obtain rfl : args = #[v0] := by cases args; simp_all
  obtain ⟨rfl, rfl⟩ := trodVars_none hV
  obtain ⟨a0, len0, cap0, rfl⟩ := okWide_slice Try.underlying22 (hval 0 22 v0 rfl rfl)
  have k0 := h0
  have lt0 : ∀ x ∈ p0, x.block < W.heap.size := by obtain ⟨m, hm⟩ := k0; exact DataW.trod_lt m _ _ _ hm
  obtain ⟨z0, w0⟩ : ∃ zs, IsRow .u8 W a0 len0 cap0 zs := by
    obtain ⟨fuel, hf⟩ := h0
    rcases open_ints Try.underlying22 Try.underlying5 (by kernel_rfl) hf with ⟨hcs, _⟩ | ⟨x, l, c, zs, hcs, _, hl, hm, hz, _, hcell, hwz⟩
    · simp [Value.cells] at hcs
      obtain ⟨rfl, rfl, rfl⟩ := hcs
      exact ⟨[], .inl ⟨rfl, rfl, rfl, rfl⟩⟩
    · simp [Value.cells] at hcs
      obtain ⟨rfl, rfl, rfl⟩ := hcs
      exact ⟨zs, .inr ⟨_, rfl, hl, hm, by simpa using hz, hcell, hwz⟩⟩
  clear hA0 hval0
  refine (walk a0 len0 cap0 z0 W w0).mono fun e W' ⟨he, bel⟩ => ?_
  subst he
  exact ⟨_, rfl, _, _, _, [], _, [], hW', trodAll_mk1 (shut_bool Try.underlying4 _), (trodAll_cons_mk (Below.trod laidOut (by kernel_rfl) (of_decide_eq_true (by kernel_rfl)) k0 bel lt0) trodAll_mk0), rfl, bel.frame _, fun h => by cases h⟩

theorem over : Rows.fnHeardsRow.holds Try.pinned (OpenSpec.ofChange Rows.fnHeardsSpec) :=
  OpenClaim.holds_of_wide 4 Try.f4 rfl rfl rfl rfl rfl rfl rfl ⟨rfl, rfl, rfl, rfl, rfl⟩ rfl rfl rfl rfl rfl (by kernel_rfl) Try.func4 (by kernel_rfl)
    (of_decide_eq_true (by kernel_rfl)) (by unfold Func.isWrapper; first | (rw [if_pos (by decide +kernel)]; kernel_rfl) | (rw [if_neg (by decide +kernel)]; exact ⟨rfl, rfl⟩))
    (fun os started H enc _ => lifted os started H enc)

end Go.Proofs.Ytdmhccheaemkkaa.FnHeards
namespace Go.Proofs.Ytdmhccheaemkkaa
theorem fnHeards_holds : Rows.FnHeardsSaid := FnHeards.over
#print axioms fnHeards_holds
end Go.Proofs.Ytdmhccheaemkkaa
