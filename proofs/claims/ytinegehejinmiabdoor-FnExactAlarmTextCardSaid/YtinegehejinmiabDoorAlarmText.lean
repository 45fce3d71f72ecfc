/-
  PROVED: at every alarm impl.AlarmText answers as spec.AlarmText and leaves it as it was, so the law laws.FnExactAlarmText returns true, whatever its argument, where the listed tables of the library hold what the program's text lays in them, to which the card ties them.
-/
import Derived.Test.YtinegehejinmiabDoorRows
import Derived.WalkKit
import Derived.ProofKit
import Derived.OpenShut
import Derived.ShutString
import Derived.ChangeOld
import Derived.Below
import Derived.WalkLawsBesides
import Derived.WalkSpells
import Derived.Test.YtinegehejinmiabDoorTie
import Derived.Test.YtinegehejinmiabDoorCards
import Derived.Test.YtinegehejinmiabDoorAlmT
import Derived.LaidMore
import Derived.Stop.Joined
import Derived.Stop.LaidErr
import Derived.Lib.LaidTab
import Derived.SevenTiedAt
import Derived.WalkSmall
import Derived.Deep.RegionHeld3
namespace Go.Proofs.YtinegehejinmiabDoor.FnExactAlarmText
open Go.ChangeShapes Go.WideShapes Go.ChangeAt Go.RowKit
open Go.ChangeMaps (open_string shut_string)
set_option linter.unusedVariables false

open Go.Proofs.YtinegehejinmiabDoor.Labs Go.Proofs.YtinegehejinmiabDoor.LabS Go.Proofs.YtinegehejinmiabDoor.LabT Go.Proofs.YtinegehejinmiabDoor.Over Go.Proofs.YtinegehejinmiabDoor.Alm Go.Proofs.YtinegehejinmiabDoor.Blk
open Go.Proofs.YtinegehejinmiabDoor.AlmS
open Go.Proofs.YtinegehejinmiabDoor.AlmT (alarmText specAlText_any implAlText_any Tab Tab.below)

set_option maxHeartbeats 1600000 in
theorem walk (a0 : Option Addr) (cap0 : Nat) (l0 : List Lab) (s0 e0 : Int) (n0 : ByteArray) (w : World) (g0 : AlIn w a0 l0 s0 e0 n0) (htab : Lib.TabIs Tryd.prog w "internal/strconv.uint64pow10" .u64 Lib.pow10Tab) :
    Calls Tryd.prog 3 #[.agg #[.slice a0 l0.length cap0, .int .i64 s0, .int .i64 e0, .string n0]] w fun e w' => e = .returned (.bool true) ∧ Below w.heap.size w w' := by
  have R0 : Hid (Reads w a0 l0) := g0.reads
  have M0 : Hid (l0.length ≤ maxLen) := g0.len
  have G0 : Hid (AlIn w a0 l0 s0 e0 n0) := g0
  clear g0
  have HTab : Hid (Tab w) := htab
  clear htab
  have B0 : Hid (Below w.heap.size w w) := Below.refl _ _
  go_enter Tryd.func3, Tryd.ntmps3
  go_wp2_with fail
  refine (Go.Proofs.YtinegehejinmiabDoor.Alm.sz_any a0 cap0 l0 s0 e0 n0 1048576 _ (G0.out.below (Go.Joins.below_alloc1 w _)) (by omega) (by omega)).mono ?_
  rintro e w1 ⟨⟨k0, rfl, p0, hn⟩, hb⟩
  have P0_1 : Hid (Blk w1 w.heap.size #[.slice a0 l0.length cap0, .int .i64 s0, .int .i64 e0, .string n0] 24) := (Blk.new _ _ _).grow hb
  replace hb := grow_on (Go.Joins.below_alloc1 w _) hb
  have B1 : Hid (Below w.heap.size w w1) := grow_on B0.out hb
  clear hb
  by_cases g0 : k0 < 0
  · clear hn
    go_wp2
    go_ret
    exact ⟨rfl, B1.out⟩
  have K0 : Hid (l0.length ≤ 1048576) := by have := hn (by omega); show l0.length ≤ 1048576; omega
  clear hn
  have cP00 : w1.cell? ⟨w.heap.size, 0, none⟩ = some (.slice a0 l0.length cap0) := (P0_1.out).cell 0
  have cP01 : w1.cell? ⟨w.heap.size, 1, none⟩ = some (.int .i64 s0) := (P0_1.out).cell 1
  have cP02 : w1.cell? ⟨w.heap.size, 2, none⟩ = some (.int .i64 e0) := (P0_1.out).cell 2
  have cP03 : w1.cell? ⟨w.heap.size, 3, none⟩ = some (.string n0) := (P0_1.out).cell 3
  go_wp2_with fail
  refine (Go.Proofs.YtinegehejinmiabDoor.Alm.to_any a0 cap0 l0 s0 e0 n0 _ (R0.out.below B1.out) K0.out).mono ?_
  rintro e w2 ⟨⟨S0M, cs, rfl, -, hk, -, hh⟩, hb⟩
  clear cP00 cP01 cP02 cP03
  have B2 : Hid (Below w.heap.size w w2) := grow_on B1.out hb
  have P0_2 : Hid (Blk w2 w.heap.size #[.slice a0 l0.length cap0, .int .i64 s0, .int .i64 e0, .string n0] 24) := P0_1.out.grow hb
  have S0_2 : Hid (Reads w2 (some ⟨S0M, 0, none⟩) l0) := held_reads hk hh
  clear hk hh
  clear hb
  have cP00 : w2.cell? ⟨w.heap.size, 0, none⟩ = some (.slice a0 l0.length cap0) := (P0_2.out).cell 0
  have cP01 : w2.cell? ⟨w.heap.size, 1, none⟩ = some (.int .i64 s0) := (P0_2.out).cell 1
  have cP02 : w2.cell? ⟨w.heap.size, 2, none⟩ = some (.int .i64 e0) := (P0_2.out).cell 2
  have cP03 : w2.cell? ⟨w.heap.size, 3, none⟩ = some (.string n0) := (P0_2.out).cell 3
  go_wp2_with fail
  refine (specAlText_any _ _ l0 s0 e0 n0 _ (G0.out.with S0_2.out)).mono ?_
  rintro e w3 ⟨rfl, hb⟩
  clear cP00 cP01 cP02 cP03
  have B3 : Hid (Below w.heap.size w w3) := grow_on B2.out hb
  have P0_3 : Hid (Blk w3 w.heap.size #[.slice a0 l0.length cap0, .int .i64 s0, .int .i64 e0, .string n0] 24) := P0_2.out.grow hb
  have S0_3 : Hid (Reads w3 (some ⟨S0M, 0, none⟩) l0) := S0_2.out.below hb
  clear hb
  have cP00 : w3.cell? ⟨w.heap.size, 0, none⟩ = some (.slice a0 l0.length cap0) := (P0_3.out).cell 0
  have cP01 : w3.cell? ⟨w.heap.size, 1, none⟩ = some (.int .i64 s0) := (P0_3.out).cell 1
  have cP02 : w3.cell? ⟨w.heap.size, 2, none⟩ = some (.int .i64 e0) := (P0_3.out).cell 2
  have cP03 : w3.cell? ⟨w.heap.size, 3, none⟩ = some (.string n0) := (P0_3.out).cell 3
  go_wp2_with fail
  refine (Go.Proofs.YtinegehejinmiabDoor.Alm.to_any a0 cap0 l0 s0 e0 n0 _ (R0.out.below B3.out) K0.out).mono ?_
  rintro e w4 ⟨⟨X0M, cs, rfl, -, hk, -, hh⟩, hb⟩
  clear cP00 cP01 cP02 cP03
  have B4 : Hid (Below w.heap.size w w4) := grow_on B3.out hb
  have P0_4 : Hid (Blk w4 w.heap.size #[.slice a0 l0.length cap0, .int .i64 s0, .int .i64 e0, .string n0] 24) := P0_3.out.grow hb
  have X0_4 : Hid (Reads w4 (some ⟨X0M, 0, none⟩) l0) := held_reads hk hh
  clear hk hh
  clear hb
  have cP00 : (w4.alloc (.cells #[.slice (some ⟨X0M, 0, none⟩) l0.length l0.length, .int .i64 s0, .int .i64 e0, .string n0] 29)).cell? ⟨w.heap.size, 0, none⟩ = some (.slice a0 l0.length cap0) := (P0_4.out.alloc _).cell 0
  have cP01 : (w4.alloc (.cells #[.slice (some ⟨X0M, 0, none⟩) l0.length l0.length, .int .i64 s0, .int .i64 e0, .string n0] 29)).cell? ⟨w.heap.size, 1, none⟩ = some (.int .i64 s0) := (P0_4.out.alloc _).cell 1
  have cP02 : (w4.alloc (.cells #[.slice (some ⟨X0M, 0, none⟩) l0.length l0.length, .int .i64 s0, .int .i64 e0, .string n0] 29)).cell? ⟨w.heap.size, 2, none⟩ = some (.int .i64 e0) := (P0_4.out.alloc _).cell 2
  have cP03 : (w4.alloc (.cells #[.slice (some ⟨X0M, 0, none⟩) l0.length l0.length, .int .i64 s0, .int .i64 e0, .string n0] 29)).cell? ⟨w.heap.size, 3, none⟩ = some (.string n0) := (P0_4.out.alloc _).cell 3
  go_wp2_with fail
  refine (implAlText_any _ _ l0 s0 e0 n0 _ (G0.out.with (X0_4.out.below (Go.Joins.below_alloc1 w4 _))) (HTab.out.below (grow_on B4.out (Go.Joins.below_alloc1 w4 _)))).mono ?_
  rintro e w5 ⟨rfl, hb⟩
  clear cP00 cP01 cP02 cP03
  have Q0_5 : Hid (Blk w5 w4.heap.size #[.slice (some ⟨X0M, 0, none⟩) l0.length l0.length, .int .i64 s0, .int .i64 e0, .string n0] 29) := (Blk.new _ _ _).grow hb
  replace hb := grow_on (Go.Joins.below_alloc1 w4 _) hb
  have B5 : Hid (Below w.heap.size w w5) := grow_on B4.out hb
  have P0_5 : Hid (Blk w5 w.heap.size #[.slice a0 l0.length cap0, .int .i64 s0, .int .i64 e0, .string n0] 24) := P0_4.out.grow hb
  have X0_5 : Hid (Reads w5 (some ⟨X0M, 0, none⟩) l0) := X0_4.out.below hb
  clear hb
  have cP00 : w5.cell? ⟨w.heap.size, 0, none⟩ = some (.slice a0 l0.length cap0) := (P0_5.out).cell 0
  have cP01 : w5.cell? ⟨w.heap.size, 1, none⟩ = some (.int .i64 s0) := (P0_5.out).cell 1
  have cP02 : w5.cell? ⟨w.heap.size, 2, none⟩ = some (.int .i64 e0) := (P0_5.out).cell 2
  have cP03 : w5.cell? ⟨w.heap.size, 3, none⟩ = some (.string n0) := (P0_5.out).cell 3
  have cQ00 : w5.cell? ⟨w4.heap.size, 0, none⟩ = some (.slice (some ⟨X0M, 0, none⟩) l0.length l0.length) := (Q0_5.out).cell 0
  have cQ01 : w5.cell? ⟨w4.heap.size, 1, none⟩ = some (.int .i64 s0) := (Q0_5.out).cell 1
  have cQ02 : w5.cell? ⟨w4.heap.size, 2, none⟩ = some (.int .i64 e0) := (Q0_5.out).cell 2
  have cQ03 : w5.cell? ⟨w4.heap.size, 3, none⟩ = some (.string n0) := (Q0_5.out).cell 3
  have e0' : Go.Proofs.YtinegehejinmiabDoor.Alm.sameB l0 s0 e0 n0 l0 s0 e0 n0 = true := Go.Proofs.YtinegehejinmiabDoor.Alm.same_self _ _ _ _
  go_wp2
  have kz : Below w5.heap.size w5 w5.drew := (Below.refl _ _).drew
  have kP0 := P0_5.out.lt
  have kQ0 := Q0_5.out.lt
  go_region_held3 (fun w' => Below w5.heap.size w5 w' ∧ w'.cell? ⟨w.heap.size, 0, none⟩ = some (.slice a0 l0.length cap0) ∧ w'.cell? ⟨w.heap.size, 1, none⟩ = some (.int .i64 s0) ∧ w'.cell? ⟨w.heap.size, 2, none⟩ = some (.int .i64 e0) ∧ w'.cell? ⟨w.heap.size, 3, none⟩ = some (.string n0) ∧ w'.cell? ⟨w4.heap.size, 0, none⟩ = some (.slice (some ⟨X0M, 0, none⟩) l0.length l0.length) ∧ w'.cell? ⟨w4.heap.size, 1, none⟩ = some (.int .i64 s0) ∧ w'.cell? ⟨w4.heap.size, 2, none⟩ = some (.int .i64 e0) ∧ w'.cell? ⟨w4.heap.size, 3, none⟩ = some (.string n0)) (first | go_keep | (go_split_ands; (have hq := grow_on kz hy1); exact ⟨hq, (hq.cell kP0).trans cP00, (hq.cell kP0).trans cP01, (hq.cell kP0).trans cP02, (hq.cell kP0).trans cP03, (hq.cell kQ0).trans cQ00, (hq.cell kQ0).trans cQ01, (hq.cell kQ0).trans cQ02, (hq.cell kQ0).trans cQ03⟩) | (go_split_ands; (have hq := grow_on (grow_on kz hy1) hy2); exact ⟨hq, (hq.cell kP0).trans cP00, (hq.cell kP0).trans cP01, (hq.cell kP0).trans cP02, (hq.cell kP0).trans cP03, (hq.cell kQ0).trans cQ00, (hq.cell kQ0).trans cQ01, (hq.cell kQ0).trans cQ02, (hq.cell kQ0).trans cQ03⟩)) (first | (go_at_call 6; refine (Go.Proofs.YtinegehejinmiabDoor.Alm.to_any a0 cap0 l0 s0 e0 n0 _ (R0.out.below (grow_on B5.out kz)) K0.out).mono ?_; rintro e wy ⟨⟨YM, cs, rfl, -, hk, -, hh⟩, hy1⟩) | (go_at_call 8; refine (Go.Proofs.YtinegehejinmiabDoor.Alm.eq_any _ _ _ _ l0 l0 s0 e0 s0 e0 n0 n0 _ (X0_5.out.below (grow_on kz hy1)) (held_reads hk hh) M0.out M0.out).mono ?_; rintro e w6 ⟨rfl, hy2⟩))
  have hb := grow_on (grow_on kz hy1) hy2
  have B6 : Hid (Below w.heap.size w w6) := grow_on B5.out hb
  have P0_6 : Hid (Blk w6 w.heap.size #[.slice a0 l0.length cap0, .int .i64 s0, .int .i64 e0, .string n0] 24) := P0_5.out.grow hb
  clear hb hy1 hy2 kz hk hh cP00 cP01 cP02 cP03 cQ00 cQ01 cQ02 cQ03 kP0 kQ0
  have cP00 : w6.cell? ⟨w.heap.size, 0, none⟩ = some (.slice a0 l0.length cap0) := (P0_6.out).cell 0
  have cP01 : w6.cell? ⟨w.heap.size, 1, none⟩ = some (.int .i64 s0) := (P0_6.out).cell 1
  have cP02 : w6.cell? ⟨w.heap.size, 2, none⟩ = some (.int .i64 e0) := (P0_6.out).cell 2
  have cP03 : w6.cell? ⟨w.heap.size, 3, none⟩ = some (.string n0) := (P0_6.out).cell 3
  go_wp2
  go_ret
  exact ⟨rfl, B6.out⟩
theorem own : ownKnob Tryd.prog.godebug = none := by kernel_rfl
theorem laidOut : laidOutB Tryd.prog = true := by kernel_rfl
theorem tab2 {W : World} (h : laidMetH Tryd.prog Rows.fnExactAlarmTextRow.laid W) : Lib.TabIs Tryd.prog W "internal/strconv.uint64pow10" .u64 Lib.pow10Tab := by
  rw [MakeChecks.laidMetH_plain _ _ _ (by kernel_rfl)] at h
  have h1 : laidMet Tryd.prog [("math/bits.deBruijn32tab", Rows.laid_math_bits_deBruijn32tab), ("math/bits.deBruijn64tab", Rows.laid_math_bits_deBruijn64tab), ("internal/strconv.uint64pow10", Rows.laid_internal_strconv_uint64pow10)] W := h
  exact Lib.tabIs_of_head (g := 0) (by kernel_rfl) (t := 78) (by kernel_rfl) Tryd.underlying78 Tryd.underlying52 (by kernel_rfl) (by kernel_rfl) (laidMet.tail (laidMet.tail (h1)))
theorem door_met (os : Os) (args : Array Value) : laidMetH Tryd.prog Rows.fnExactAlarmTextRow.laid ((World.doorLaid Tryd.prog 400 os).forCall (fun _ _ => 0) ⟨#[], args, []⟩).memory :=
  laidMetH_of_parts3 (fuel := 8) (laidMet_of_run' 8 (by kernel_rfl) (by kernel_rfl)) (by kernel_rfl) (by kernel_rfl)
set_option maxRecDepth 100000 in
theorem lifted (os : Os) (started : os.Started) (H : Type) (enc : TypeId × Value → H) :
    ReturnsInHanded {} Tryd.checked os 3 .any (fun w args => (Rows.fnExactAlarmTextSpec.pre enc Tryd.prog Tryd.f3 [] false w args ∧ laidMetH Tryd.prog Rows.fnExactAlarmTextRow.laid w) ∧ sizedMet enc Tryd.prog Tryd.f3 (OpenSpec.ofChange Rows.fnExactAlarmTextSpec) false w args)
      (Rows.fnExactAlarmTextSpec.post enc Tryd.prog Tryd.f3 false true false false) := by
  refine returnsInHanded_of_change_and (C := Tryd.checked) (X := fun w _ => laidMetH Tryd.prog Rows.fnExactAlarmTextRow.laid w) (fun _ _ _ hh h => h.of_heap hh) own started (by kernel_rfl) Tryd.func3
    (ChangeSpec.witness_shaped (enc := enc) (C := Tryd.checked) (os := os) (X := fun w _ => laidMetH Tryd.prog Rows.fnExactAlarmTextRow.laid w) false (World.doorLaid Tryd.prog 400 os) #[.agg #[.slice none 0 0, .int .i64 0, .int .i64 0, .string ⟨#[]⟩]] 8 rfl (World.shaped_of_RefB (by kernel_rfl) (by kernel_rfl)) (by kernel_rfl) (by kernel_rfl) (by kernel_rfl) (door_met os _)) ?_
  intro W base args ds gs before hval0 hW _ _ hL _
  have hval : ∀ (j : Nat) t v, Tryd.f3.params[j]? = some t → args[j]? = some v → Value.okWide Tryd.prog W .any base t v := hval0
  have hW' := hW
  obtain ⟨p, q, hA0, hV, rfl, hfz, hnd⟩ := hW
  have hA : DataW.TrodAll enc Tryd.prog W 0 (fun _ => true) true Tryd.f3.params.toList args.toList ds p := hA0
  rw [Tryd.params3] at hA hval
  obtain ⟨v0, vs0, d0, ds0, p0, q0, hargs, rfl, rfl, h0, r0⟩ := trodAll_cons hA
  obtain ⟨rfl, rfl, rfl⟩ := trodAll_nil r0
  obtain rfl : args = #[v0] := by cases args; simp_all
  obtain ⟨rfl, rfl⟩ := trodVars_none hV
  have k0 := h0
  have lt0 : ∀ x ∈ p0, x.block < W.heap.size := by obtain ⟨m, hm⟩ := k0; exact DataW.trod_lt m _ _ _ hm
  obtain ⟨a0, cap0, l0, s0, e0, n0, rfl, w0⟩ := Go.Proofs.YtinegehejinmiabDoor.Alm.open_alarm (hval 0 24 v0 rfl rfl) h0
  clear hA0 hval0
  refine (walk a0 cap0 l0 s0 e0 n0 W w0 (tab2 hL)).mono fun e W' ⟨he, bel⟩ => ?_
  subst he
  exact ⟨_, rfl, _, _, _, [], _, [], hW', trodAll_mk1 (shut_bool Tryd.underlying4 _), (trodAll_cons_mk (Below.trod laidOut (by kernel_rfl) (of_decide_eq_true (by kernel_rfl)) k0 bel lt0) trodAll_mk0), rfl, bel.frame _, fun h => by cases h⟩

theorem over : Rows.fnExactAlarmTextRow.holds Tryd.pinned (OpenSpec.ofChange Rows.fnExactAlarmTextSpec) :=
  OpenClaim.holds_of_wide 3 Tryd.f3 rfl rfl rfl rfl rfl rfl rfl ⟨rfl, rfl, rfl, rfl, rfl⟩ rfl rfl rfl rfl rfl (by kernel_rfl) Tryd.func3 (by kernel_rfl)
    (of_decide_eq_true (by kernel_rfl)) (by unfold Func.isWrapper; first | (rw [if_pos (by decide +kernel)]; kernel_rfl) | (rw [if_neg (by decide +kernel)]; exact ⟨rfl, rfl⟩))
    (fun os started H enc _ => lifted os started H enc)

theorem card : Rows.FnExactAlarmTextCardSaid :=
  Claim7.holds_tied_plain_at .later [] _ true _ _
    over (fun _ h => by cases h) (by kernel_rfl) (fun _ h => by cases h) fnExactAlarmText_row_tie rfl ⟨rfl, rfl⟩ (by kernel_rfl) rfl
    (fun f fn hf hfn => by
      obtain rfl : f = 3 := Option.some.inj ((show Tryd.prog.funcNamed Rows.fnExactAlarmTextRow.func = some 3 by kernel_rfl).symm.trans hf) |>.symm
      obtain rfl : fn = Tryd.f3 := (Option.some.inj (Tryd.func3.symm.trans hfn)).symm
      exact ⟨by kernel_rfl, fun j t ht => by
        rw [Tryd.params3] at ht
        have hm : t ∈ [24] := by simpa using Array.mem_of_getElem? ht
        have hall : ([24].all fun u => !Tryd.prog.wantsStandIn u) = true := by kernel_rfl
        exact (show Tryd.prog.wantsStandIn t = false by simpa using List.all_eq_true.1 hall t hm)⟩)
    (by kernel_rfl)

end Go.Proofs.YtinegehejinmiabDoor.FnExactAlarmText
namespace Go.Proofs.YtinegehejinmiabDoor
theorem fnExactAlarmText_card_holds : Rows.FnExactAlarmTextCardSaid := FnExactAlarmText.card
#print axioms fnExactAlarmText_card_holds
end Go.Proofs.YtinegehejinmiabDoor
