/-
  PROVED: spec.GroupOk answers as a plain function on numbers and lists says; nothing that was there is changed.
  PROVED: impl.GroupOk answers as a plain function on numbers and lists says; nothing that was there is changed.
-/
import Derived.Test.YtgncimlojbnbfaaGreatQTk
import Derived.Test.YtgncimlojbnbfaaGreatQGrp
import Derived.Test.YtgncimlojbnbfaaGreatQPro
import Derived.Test.YtgncimlojbnbfaaGreatQLabL
import Derived.Deep.RegionHeld3
set_option linter.unusedVariables false
namespace Go.Proofs.YtgncimlojbnbfaaGreat.GrpG
open Go.RowKit
open Names (inB l1In_any)
open Labs LabS Alms AlmS AlmM Over Blk App Rws ChnI ChnC ChnK Grp
open StrB (retB)
open LabL (slB)
open Pro (projB RdS own_reads)
open LabO (setB)
def okX (x : PAl) : Bool := alarmB x.l x.s x.e x.n
def grAt (key : List Lab) (P : List PAl) (by' : List ByteArray) (i : Nat) : Bool := okX (nthP P i) && ((decide (i = 0) || slB (nthP P (i - 1)).l (nthP P i).l) && decide (projB (nthP P i).l by' = key))
def groupB (n : Int) (key : List Lab) (b t : Int) (P : List PAl) (by' : List ByteArray) : Bool := (List.range P.length).all (grAt key P by') && (decide (0 ≤ n) && (setB key && (inB b 0 99999 && ((decide (t = -1) || inB t b 99999) && decide (0 < P.length)))))
theorem group_bad {n b t : Int} {key : List Lab} {P : List PAl} {by' : List ByteArray} {k : Nat} (hk : k < P.length) (h : grAt key P by' k = false) : groupB n key b t P by' = false := by
  have : (List.range P.length).all (grAt key P by') = false := by
    rw [← Bool.not_eq_true]
    intro e
    have := List.all_eq_true.1 e k (List.mem_range.2 hk)
    rw [h] at this; cases this
  unfold groupB; rw [this]; rfl
theorem group_all {n b t : Int} {key : List Lab} {P : List PAl} {by' : List ByteArray} (h : ∀ j, j < P.length → grAt key P by' j = true) : groupB n key b t P by' = (decide (0 ≤ n) && (setB key && (inB b 0 99999 && ((decide (t = -1) || inB t b 99999) && decide (0 < P.length))))) := by
  have : (List.range P.length).all (grAt key P by') = true := List.all_eq_true.2 fun j hj => h j (List.mem_range.1 hj)
  unfold groupB; rw [this]; rfl
set_option maxRecDepth 100000 in
set_option maxHeartbeats 6400000 in
theorem specGroup_any (n b t : Int) (ka : Option Addr) (kc : Nat) (key : List Lab) (a : Option Addr) (cap : Nat) (P : List PAl) (ba : Option Addr) (bc : Nat) (by' : List ByteArray) (w : World) (hk : Reads w ka key) (hkl : key.length ≤ maxLen) (hkz : LabO.Fits key) (hr : RdA w a P) (hl : P.length ≤ 1048576) (hz : FitsP P) (hs : LenM P) (hb : RdS w ba by') (hbl : by'.length ≤ maxLen) :
    Calls Tryz.prog 48 #[.agg #[.int .i64 n, .slice ka key.length kc, .int .i64 b, .int .i64 t, .slice a P.length cap], .slice ba by'.length bc] w fun e w' => e = .returned (.bool (groupB n key b t P by')) ∧ Below w.heap.size w w' := by
  have HK : Hid (Reads w ka key ∧ key.length ≤ maxLen ∧ LabO.Fits key) := ⟨hk, hkl, hkz⟩
  have HR : Hid (RdA w a P ∧ FitsP P ∧ LenM P) := ⟨hr, hz, hs⟩
  have HY : Hid (RdS w ba by' ∧ by'.length ≤ maxLen) := ⟨hb, hbl⟩
  clear hk hkl hkz hr hz hs hb hbl
  generalize hW0 : w.alloc (.cells #[.int .i64 n, .slice ka key.length kc, .int .i64 b, .int .i64 t, .slice a P.length cap] 53) = W0
  have HB0 : Hid (Below w.heap.size w W0) := by rw [← hW0]; exact Go.Joins.below_alloc1 w _
  have BP0 : Hid (Blk W0 w.heap.size #[.int .i64 n, .slice ka key.length kc, .int .i64 b, .int .i64 t, .slice a P.length cap] 53) := by rw [← hW0]; exact Blk.new _ _ _
  go_enter Tryz.func48, Tryz.ntmps48
  go_upto_region 1 with fail
  try rw [hW0]
  clear hW0
  go_upto_region 2 with fail
  go_loopw [5] (fun i w' => ∃ k : Nat, i = .int .i64 k ∧ k ≤ P.length ∧ (∀ j, j < k → grAt key P by' j = true) ∧ Below W0.heap.size W0 w') (fun i _ => P.length - (intOf i).toNat)
  case atStart => exact ⟨0, rfl, Nat.zero_le _, fun j hj => by omega, Below.refl _ _⟩
  case round =>
    obtain ⟨k, rfl, hk, hu, hbr⟩ := hrel
    have HU : Hid (∀ j, j < k → grAt key P by' j = true) := hu
    have BP : Hid (Blk wr w.heap.size #[.int .i64 n, .slice ka key.length kc, .int .i64 b, .int .i64 t, .slice a P.length cap] 53) := BP0.out.grow hbr
    have HBr : Hid (Below W0.heap.size W0 wr) := hbr
    have HBw : Hid (Below w.heap.size w wr) := grow_on HB0.out hbr
    have hp4 := BP.out.cell 4
    simp at hp4
    clear hu hbr
    by_cases hlt : k < P.length
    · have hlt' : (k : Int) < (P.length : Int) := by omega
      obtain ⟨bb, off, rfl, hbb, ad, cp, hat⟩ := (HR.out.1.below HBw.out).get hlt
      have HA : Hid (At wr bb off k (nthP P k) ad cp) := hat
      have HOK : Hid (∀ y, Below wr.heap.size wr y → Calls Tryz.prog 81 #[.agg #[.slice ad (nthP P k).l.length cp, .int .i64 (nthP P k).s, .int .i64 (nthP P k).e, .string (nthP P k).n]] y fun e w' => e = .returned (.bool (okX (nthP P k))) ∧ Below y.heap.size y w') := fun y hy => specAlarm_any _ _ _ _ _ _ y ((HR.out.2.1 k hlt).al (hat.reads.below hy))
      have HKE : Hid (∀ y, Below wr.heap.size wr y → Calls Tryz.prog 35 #[.agg #[.slice ad (nthP P k).l.length cp, .int .i64 (nthP P k).s, .int .i64 (nthP P k).e, .string (nthP P k).n], .slice ba by'.length bc] y fun e w' => (∃ M c, e = .returned (.slice (some ⟨M, 0, none⟩) (projB (nthP P k).l by').length c) ∧ LabR.Own y w' M (projB (nthP P k).l by')) ∧ Below y.heap.size y w') := fun y hy => Pro.specKey_any _ _ _ _ _ _ _ _ _ y (hat.reads.below hy) (HY.out.1.below (grow_on HBw.out hy)) (HR.out.2.2 k hlt) HY.out.2
      have HPL : Hid ((projB (nthP P k).l by').length ≤ maxLen) := by have h1 := Pro.proj_len (nthP P k).l by'; have h2 := HR.out.2.2 k hlt; unfold maxLen; show _ ≤ _; omega
      clear hat
      cases hA : okX (nthP P k) with
      | false =>
        have HE : Hid (groupB n key b t P by' = false) := group_bad hlt (by unfold grAt; rw [hA]; rfl)
        have HS : Hid (∀ w', Below wr.heap.size wr w' → w'.cell? ⟨w.heap.size, 1, none⟩ = some (.slice ka key.length kc) ∧ w'.cell? ⟨w.heap.size, 4, none⟩ = some (.slice (some ⟨bb, off, none⟩) P.length cap) ∧ w'.cell? ⟨bb, off + k * 4, none⟩ = some (.slice ad (nthP P k).l.length cp) ∧ w'.cell? ⟨bb, off + k * 4 + 1, none⟩ = some (.int .i64 (nthP P k).s) ∧ w'.cell? ⟨bb, off + k * 4 + 2, none⟩ = some (.int .i64 (nthP P k).e) ∧ w'.cell? ⟨bb, off + k * 4 + 3, none⟩ = some (.string (nthP P k).n)) := fun w' h => ⟨(BP.out.grow h).cell 1, (BP.out.grow h).cell 4, (h.cell (p := ⟨bb, off + k * 4, none⟩) hbb).trans HA.out.c0, (h.cell (p := ⟨bb, off + k * 4 + 1, none⟩) hbb).trans HA.out.c1, (h.cell (p := ⟨bb, off + k * 4 + 2, none⟩) hbb).trans HA.out.c2, (h.cell (p := ⟨bb, off + k * 4 + 3, none⟩) hbb).trans HA.out.c3⟩
        go_upto_region 4 with fail
        refine wp_region_held_drew (S := fun w' => w'.cell? ⟨w.heap.size, 1, none⟩ = some (.slice ka key.length kc) ∧ w'.cell? ⟨w.heap.size, 4, none⟩ = some (.slice (some ⟨bb, off, none⟩) P.length cap) ∧ w'.cell? ⟨bb, off + k * 4, none⟩ = some (.slice ad (nthP P k).l.length cp) ∧ w'.cell? ⟨bb, off + k * 4 + 1, none⟩ = some (.int .i64 (nthP P k).s) ∧ w'.cell? ⟨bb, off + k * 4 + 2, none⟩ = some (.int .i64 (nthP P k).e) ∧ w'.cell? ⟨bb, off + k * 4 + 3, none⟩ = some (.string (nthP P k).n)) (by kernel_rfl) (HS.out _ (Below.refl wr.heap.size wr).drew) (fun hHeld => ?_)
        refine tk 0 ⟨some 13, .fieldAddr 53 (.tmp 2) 4, 0, "l11_group.go:7", #[], none⟩ hHeld ?_
        try go_frame
        refine tk 1 ⟨some 14, .load 35 (.tmp 13), 35, "l11_group.go:7", #[⟨0, .data⟩], none⟩ hHeld ?_
        try go_frame
        refine tk 2 ⟨some 15, .move (.tmp 5), 3, "l11_group.go:7", #[], none⟩ hHeld ?_
        try go_frame
        refine tk 3 ⟨some 16, .indexAddr 35 (.tmp 14) (.tmp 15), 0, "l11_group.go:7", #[⟨1, .data⟩, ⟨2, .data⟩], none⟩ hHeld ?_
        try go_frame
        refine tk 4 ⟨some 17, .load 27 (.tmp 16), 27, "l11_group.go:7", #[⟨3, .data⟩], none⟩ hHeld ?_
        try go_frame
        refine rd1 5 ⟨some 18, .call { callee := .value (.func 81), args := #[.tmp 17], argTypes := #[27] }, 4, "l11_group.go:7", #[⟨4, .data⟩], none⟩ (fun K hK => ?_)
        go_simp
        refine (HOK.out _ (Below.refl wr.heap.size wr).drew).mono ?_
        rintro r wyg1x5 ⟨rfl, hb1⟩
        have Z1 : Hid (Below wr.heap.size wr wyg1x5) := grow_on (Below.refl wr.heap.size wr).drew hb1
        clear hb1
        try rw [hA]
        clear hHeld
        refine hK.out _ _ (HS.out _ Z1.out) (fun hHeld => ?_)
        clear hK K
        try go_frame
        refine tk 6 ⟨some 19, .unOp .not 4 (.tmp 18), 4, "l11_group.go:7", #[⟨5, .data⟩], none⟩ hHeld ?_
        try go_frame
        refine tk 7 ⟨some 20, .move (.tmp 19), 4, "l11_group.go:7", #[⟨6, .data⟩, ⟨5, .chain⟩], none⟩ hHeld ?_
        try go_frame
        refine sk 8 ⟨some 21, .move (.tmp 5), 3, "l11_group.go:7", #[⟨7, .guard⟩], some (7, false)⟩ hHeld ?_
        try go_frame
        refine sk 9 ⟨some 22, .binOp .gtr 3 (.tmp 21) (.const (.int .i64 0)) 3, 4, "l11_group.go:7", #[⟨8, .data⟩, ⟨7, .guard⟩], some (7, false)⟩ hHeld ?_
        try go_frame
        refine sk 10 ⟨some 23, .move (.tmp 22), 4, "l11_group.go:7", #[⟨9, .data⟩, ⟨7, .chain⟩, ⟨7, .guard⟩], some (7, false)⟩ hHeld ?_
        try go_frame
        refine sk 11 ⟨some 24, .fieldAddr 53 (.tmp 2) 4, 0, "l11_group.go:7", #[⟨10, .guard⟩], some (10, true)⟩ hHeld ?_
        try go_frame
        refine sk 12 ⟨some 25, .load 35 (.tmp 24), 35, "l11_group.go:7", #[⟨11, .data⟩, ⟨10, .guard⟩], some (10, true)⟩ hHeld ?_
        try go_frame
        refine sk 13 ⟨some 26, .move (.tmp 5), 3, "l11_group.go:7", #[⟨10, .guard⟩], some (10, true)⟩ hHeld ?_
        try go_frame
        refine sk 14 ⟨some 27, .binOp .sub 3 (.tmp 26) (.const (.int .i64 1)) 3, 3, "l11_group.go:7", #[⟨13, .data⟩, ⟨10, .guard⟩], some (10, true)⟩ hHeld ?_
        try go_frame
        refine sk 15 ⟨some 28, .indexAddr 35 (.tmp 25) (.tmp 27), 0, "l11_group.go:7", #[⟨12, .data⟩, ⟨14, .data⟩, ⟨10, .guard⟩], some (10, true)⟩ hHeld ?_
        try go_frame
        refine sk 16 ⟨some 29, .fieldAddr 27 (.tmp 28) 0, 0, "l11_group.go:7", #[⟨15, .data⟩, ⟨10, .guard⟩], some (10, true)⟩ hHeld ?_
        try go_frame
        refine sk 17 ⟨some 30, .load 25 (.tmp 29), 25, "l11_group.go:7", #[⟨16, .data⟩, ⟨10, .guard⟩], some (10, true)⟩ hHeld ?_
        try go_frame
        refine sk 18 ⟨some 31, .fieldAddr 53 (.tmp 2) 4, 0, "l11_group.go:7", #[⟨10, .guard⟩], some (10, true)⟩ hHeld ?_
        try go_frame
        refine sk 19 ⟨some 32, .load 35 (.tmp 31), 35, "l11_group.go:7", #[⟨18, .data⟩, ⟨10, .guard⟩], some (10, true)⟩ hHeld ?_
        try go_frame
        refine sk 20 ⟨some 33, .move (.tmp 5), 3, "l11_group.go:7", #[⟨10, .guard⟩], some (10, true)⟩ hHeld ?_
        try go_frame
        refine sk 21 ⟨some 34, .indexAddr 35 (.tmp 32) (.tmp 33), 0, "l11_group.go:7", #[⟨19, .data⟩, ⟨20, .data⟩, ⟨10, .guard⟩], some (10, true)⟩ hHeld ?_
        try go_frame
        refine sk 22 ⟨some 35, .fieldAddr 27 (.tmp 34) 0, 0, "l11_group.go:7", #[⟨21, .data⟩, ⟨10, .guard⟩], some (10, true)⟩ hHeld ?_
        try go_frame
        refine sk 23 ⟨some 36, .load 25 (.tmp 35), 25, "l11_group.go:7", #[⟨22, .data⟩, ⟨10, .guard⟩], some (10, true)⟩ hHeld ?_
        try go_frame
        refine sk 24 ⟨some 37, .call { callee := .value (.func 66), args := #[.tmp 30, .tmp 36], argTypes := #[25, 25] }, 4, "l11_group.go:7", #[⟨17, .data⟩, ⟨23, .data⟩, ⟨10, .chain⟩, ⟨10, .guard⟩], some (10, true)⟩ hHeld ?_
        try go_frame
        refine sk 25 ⟨some 38, .unOp .not 4 (.tmp 37), 4, "l11_group.go:7", #[⟨24, .data⟩, ⟨10, .guard⟩], some (10, true)⟩ hHeld ?_
        try go_frame
        refine sk 26 ⟨some 39, .pick (.tmp 23) (.tmp 38) (.const (.bool false)), 4, "l11_group.go:7", #[⟨10, .data⟩, ⟨25, .data⟩, ⟨7, .guard⟩], some (7, false)⟩ hHeld ?_
        try go_frame
        refine tk 27 ⟨some 40, .pick (.tmp 20) (.const (.bool true)) (.tmp 39), 4, "l11_group.go:7", #[⟨7, .data⟩, ⟨26, .data⟩], none⟩ hHeld ?_
        try go_frame
        refine tk 28 ⟨some 41, .move (.tmp 40), 4, "l11_group.go:7", #[⟨27, .data⟩, ⟨24, .chain⟩], none⟩ hHeld ?_
        try go_frame
        refine sk 29 ⟨some 42, .fieldAddr 53 (.tmp 2) 4, 0, "l11_group.go:7", #[⟨28, .guard⟩], some (28, false)⟩ hHeld ?_
        try go_frame
        refine sk 30 ⟨some 43, .load 35 (.tmp 42), 35, "l11_group.go:7", #[⟨29, .data⟩, ⟨28, .guard⟩], some (28, false)⟩ hHeld ?_
        try go_frame
        refine sk 31 ⟨some 44, .move (.tmp 5), 3, "l11_group.go:7", #[⟨28, .guard⟩], some (28, false)⟩ hHeld ?_
        try go_frame
        refine sk 32 ⟨some 45, .indexAddr 35 (.tmp 43) (.tmp 44), 0, "l11_group.go:7", #[⟨30, .data⟩, ⟨31, .data⟩, ⟨28, .guard⟩], some (28, false)⟩ hHeld ?_
        try go_frame
        refine sk 33 ⟨some 46, .load 27 (.tmp 45), 27, "l11_group.go:7", #[⟨32, .data⟩, ⟨28, .guard⟩], some (28, false)⟩ hHeld ?_
        try go_frame
        refine sk 34 ⟨some 47, .move (.tmp 1), 28, "l11_group.go:7", #[⟨28, .guard⟩], some (28, false)⟩ hHeld ?_
        try go_frame
        refine sk 35 ⟨some 48, .call { callee := .value (.func 35), args := #[.tmp 46, .tmp 47], argTypes := #[27, 28] }, 25, "l11_group.go:7", #[⟨33, .data⟩, ⟨34, .data⟩, ⟨28, .chain⟩, ⟨28, .guard⟩], some (28, false)⟩ hHeld ?_
        try go_frame
        refine sk 36 ⟨some 49, .fieldAddr 53 (.tmp 2) 1, 0, "l11_group.go:7", #[⟨28, .guard⟩], some (28, false)⟩ hHeld ?_
        try go_frame
        refine sk 37 ⟨some 50, .load 25 (.tmp 49), 25, "l11_group.go:7", #[⟨36, .data⟩, ⟨28, .guard⟩], some (28, false)⟩ hHeld ?_
        try go_frame
        refine sk 38 ⟨some 51, .call { callee := .value (.func 49), args := #[.tmp 48, .tmp 50], argTypes := #[25, 25] }, 4, "l11_group.go:7", #[⟨35, .data⟩, ⟨37, .data⟩, ⟨35, .chain⟩, ⟨28, .guard⟩], some (28, false)⟩ hHeld ?_
        try go_frame
        refine sk 39 ⟨some 52, .unOp .not 4 (.tmp 51), 4, "l11_group.go:7", #[⟨38, .data⟩, ⟨28, .guard⟩], some (28, false)⟩ hHeld ?_
        try go_frame
        refine tk 40 ⟨some 53, .pick (.tmp 41) (.const (.bool true)) (.tmp 52), 4, "l11_group.go:7", #[⟨28, .data⟩, ⟨39, .data⟩], none⟩ hHeld ?_
        try go_frame
        refine wpAnyH_done (by kernel_rfl) ?_ _
        clear hHeld
        go_wp2
        go_ret
        exact ⟨retB HE.out.symm, grow_on HBw.out Z1.out⟩
      | true =>
        by_cases k0 : k = 0
        · have K0 : Hid (k = 0) := k0
          have bk : decide (0 < k) = false := decide_eq_false (by omega)
          clear k0
          cases hSm : decide (projB (nthP P k).l by' = key) with
          | false =>
            have HE : Hid (groupB n key b t P by' = false) := group_bad hlt (by unfold grAt; rw [hA, hSm]; simp)
            have HS : Hid (∀ w', Below wr.heap.size wr w' → w'.cell? ⟨w.heap.size, 1, none⟩ = some (.slice ka key.length kc) ∧ w'.cell? ⟨w.heap.size, 4, none⟩ = some (.slice (some ⟨bb, off, none⟩) P.length cap) ∧ w'.cell? ⟨bb, off + k * 4, none⟩ = some (.slice ad (nthP P k).l.length cp) ∧ w'.cell? ⟨bb, off + k * 4 + 1, none⟩ = some (.int .i64 (nthP P k).s) ∧ w'.cell? ⟨bb, off + k * 4 + 2, none⟩ = some (.int .i64 (nthP P k).e) ∧ w'.cell? ⟨bb, off + k * 4 + 3, none⟩ = some (.string (nthP P k).n)) := fun w' h => ⟨(BP.out.grow h).cell 1, (BP.out.grow h).cell 4, (h.cell (p := ⟨bb, off + k * 4, none⟩) hbb).trans HA.out.c0, (h.cell (p := ⟨bb, off + k * 4 + 1, none⟩) hbb).trans HA.out.c1, (h.cell (p := ⟨bb, off + k * 4 + 2, none⟩) hbb).trans HA.out.c2, (h.cell (p := ⟨bb, off + k * 4 + 3, none⟩) hbb).trans HA.out.c3⟩
            go_upto_region 4 with fail
            refine wp_region_held_drew (S := fun w' => w'.cell? ⟨w.heap.size, 1, none⟩ = some (.slice ka key.length kc) ∧ w'.cell? ⟨w.heap.size, 4, none⟩ = some (.slice (some ⟨bb, off, none⟩) P.length cap) ∧ w'.cell? ⟨bb, off + k * 4, none⟩ = some (.slice ad (nthP P k).l.length cp) ∧ w'.cell? ⟨bb, off + k * 4 + 1, none⟩ = some (.int .i64 (nthP P k).s) ∧ w'.cell? ⟨bb, off + k * 4 + 2, none⟩ = some (.int .i64 (nthP P k).e) ∧ w'.cell? ⟨bb, off + k * 4 + 3, none⟩ = some (.string (nthP P k).n)) (by kernel_rfl) (HS.out _ (Below.refl wr.heap.size wr).drew) (fun hHeld => ?_)
            refine tk 0 ⟨some 13, .fieldAddr 53 (.tmp 2) 4, 0, "l11_group.go:7", #[], none⟩ hHeld ?_
            try go_frame
            refine tk 1 ⟨some 14, .load 35 (.tmp 13), 35, "l11_group.go:7", #[⟨0, .data⟩], none⟩ hHeld ?_
            try go_frame
            refine tk 2 ⟨some 15, .move (.tmp 5), 3, "l11_group.go:7", #[], none⟩ hHeld ?_
            try go_frame
            refine tk 3 ⟨some 16, .indexAddr 35 (.tmp 14) (.tmp 15), 0, "l11_group.go:7", #[⟨1, .data⟩, ⟨2, .data⟩], none⟩ hHeld ?_
            try go_frame
            refine tk 4 ⟨some 17, .load 27 (.tmp 16), 27, "l11_group.go:7", #[⟨3, .data⟩], none⟩ hHeld ?_
            try go_frame
            refine rd1 5 ⟨some 18, .call { callee := .value (.func 81), args := #[.tmp 17], argTypes := #[27] }, 4, "l11_group.go:7", #[⟨4, .data⟩], none⟩ (fun K hK => ?_)
            go_simp
            refine (HOK.out _ (Below.refl wr.heap.size wr).drew).mono ?_
            rintro r wyg2x5 ⟨rfl, hb1⟩
            have Z1 : Hid (Below wr.heap.size wr wyg2x5) := grow_on (Below.refl wr.heap.size wr).drew hb1
            clear hb1
            try rw [hA]
            clear hHeld
            refine hK.out _ _ (HS.out _ Z1.out) (fun hHeld => ?_)
            clear hK K
            try go_frame
            refine tk 6 ⟨some 19, .unOp .not 4 (.tmp 18), 4, "l11_group.go:7", #[⟨5, .data⟩], none⟩ hHeld ?_
            try go_frame
            refine tk 7 ⟨some 20, .move (.tmp 19), 4, "l11_group.go:7", #[⟨6, .data⟩, ⟨5, .chain⟩], none⟩ hHeld ?_
            try go_frame
            refine tk 8 ⟨some 21, .move (.tmp 5), 3, "l11_group.go:7", #[⟨7, .guard⟩], some (7, false)⟩ hHeld ?_
            try go_frame
            refine tk 9 ⟨some 22, .binOp .gtr 3 (.tmp 21) (.const (.int .i64 0)) 3, 4, "l11_group.go:7", #[⟨8, .data⟩, ⟨7, .guard⟩], some (7, false)⟩ hHeld ?_
            try go_frame
            refine tk 10 ⟨some 23, .move (.tmp 22), 4, "l11_group.go:7", #[⟨9, .data⟩, ⟨7, .chain⟩, ⟨7, .guard⟩], some (7, false)⟩ hHeld ?_
            try go_frame
            refine sk 11 ⟨some 24, .fieldAddr 53 (.tmp 2) 4, 0, "l11_group.go:7", #[⟨10, .guard⟩], some (10, true)⟩ hHeld ?_
            try go_frame
            refine sk 12 ⟨some 25, .load 35 (.tmp 24), 35, "l11_group.go:7", #[⟨11, .data⟩, ⟨10, .guard⟩], some (10, true)⟩ hHeld ?_
            try go_frame
            refine sk 13 ⟨some 26, .move (.tmp 5), 3, "l11_group.go:7", #[⟨10, .guard⟩], some (10, true)⟩ hHeld ?_
            try go_frame
            refine sk 14 ⟨some 27, .binOp .sub 3 (.tmp 26) (.const (.int .i64 1)) 3, 3, "l11_group.go:7", #[⟨13, .data⟩, ⟨10, .guard⟩], some (10, true)⟩ hHeld ?_
            try go_frame
            refine sk 15 ⟨some 28, .indexAddr 35 (.tmp 25) (.tmp 27), 0, "l11_group.go:7", #[⟨12, .data⟩, ⟨14, .data⟩, ⟨10, .guard⟩], some (10, true)⟩ hHeld ?_
            try go_frame
            refine sk 16 ⟨some 29, .fieldAddr 27 (.tmp 28) 0, 0, "l11_group.go:7", #[⟨15, .data⟩, ⟨10, .guard⟩], some (10, true)⟩ hHeld ?_
            try go_frame
            refine sk 17 ⟨some 30, .load 25 (.tmp 29), 25, "l11_group.go:7", #[⟨16, .data⟩, ⟨10, .guard⟩], some (10, true)⟩ hHeld ?_
            try go_frame
            refine sk 18 ⟨some 31, .fieldAddr 53 (.tmp 2) 4, 0, "l11_group.go:7", #[⟨10, .guard⟩], some (10, true)⟩ hHeld ?_
            try go_frame
            refine sk 19 ⟨some 32, .load 35 (.tmp 31), 35, "l11_group.go:7", #[⟨18, .data⟩, ⟨10, .guard⟩], some (10, true)⟩ hHeld ?_
            try go_frame
            refine sk 20 ⟨some 33, .move (.tmp 5), 3, "l11_group.go:7", #[⟨10, .guard⟩], some (10, true)⟩ hHeld ?_
            try go_frame
            refine sk 21 ⟨some 34, .indexAddr 35 (.tmp 32) (.tmp 33), 0, "l11_group.go:7", #[⟨19, .data⟩, ⟨20, .data⟩, ⟨10, .guard⟩], some (10, true)⟩ hHeld ?_
            try go_frame
            refine sk 22 ⟨some 35, .fieldAddr 27 (.tmp 34) 0, 0, "l11_group.go:7", #[⟨21, .data⟩, ⟨10, .guard⟩], some (10, true)⟩ hHeld ?_
            try go_frame
            refine sk 23 ⟨some 36, .load 25 (.tmp 35), 25, "l11_group.go:7", #[⟨22, .data⟩, ⟨10, .guard⟩], some (10, true)⟩ hHeld ?_
            try go_frame
            refine sk 24 ⟨some 37, .call { callee := .value (.func 66), args := #[.tmp 30, .tmp 36], argTypes := #[25, 25] }, 4, "l11_group.go:7", #[⟨17, .data⟩, ⟨23, .data⟩, ⟨10, .chain⟩, ⟨10, .guard⟩], some (10, true)⟩ hHeld ?_
            try go_frame
            refine sk 25 ⟨some 38, .unOp .not 4 (.tmp 37), 4, "l11_group.go:7", #[⟨24, .data⟩, ⟨10, .guard⟩], some (10, true)⟩ hHeld ?_
            try go_frame
            refine tk 26 ⟨some 39, .pick (.tmp 23) (.tmp 38) (.const (.bool false)), 4, "l11_group.go:7", #[⟨10, .data⟩, ⟨25, .data⟩, ⟨7, .guard⟩], some (7, false)⟩ hHeld ?_
            try go_frame
            refine tk 27 ⟨some 40, .pick (.tmp 20) (.const (.bool true)) (.tmp 39), 4, "l11_group.go:7", #[⟨7, .data⟩, ⟨26, .data⟩], none⟩ hHeld ?_
            try go_frame
            refine tk 28 ⟨some 41, .move (.tmp 40), 4, "l11_group.go:7", #[⟨27, .data⟩, ⟨24, .chain⟩], none⟩ hHeld ?_
            try go_frame
            refine tk 29 ⟨some 42, .fieldAddr 53 (.tmp 2) 4, 0, "l11_group.go:7", #[⟨28, .guard⟩], some (28, false)⟩ hHeld ?_
            try go_frame
            refine tk 30 ⟨some 43, .load 35 (.tmp 42), 35, "l11_group.go:7", #[⟨29, .data⟩, ⟨28, .guard⟩], some (28, false)⟩ hHeld ?_
            try go_frame
            refine tk 31 ⟨some 44, .move (.tmp 5), 3, "l11_group.go:7", #[⟨28, .guard⟩], some (28, false)⟩ hHeld ?_
            try go_frame
            refine tk 32 ⟨some 45, .indexAddr 35 (.tmp 43) (.tmp 44), 0, "l11_group.go:7", #[⟨30, .data⟩, ⟨31, .data⟩, ⟨28, .guard⟩], some (28, false)⟩ hHeld ?_
            try go_frame
            refine tk 33 ⟨some 46, .load 27 (.tmp 45), 27, "l11_group.go:7", #[⟨32, .data⟩, ⟨28, .guard⟩], some (28, false)⟩ hHeld ?_
            try go_frame
            refine tk 34 ⟨some 47, .move (.tmp 1), 28, "l11_group.go:7", #[⟨28, .guard⟩], some (28, false)⟩ hHeld ?_
            try go_frame
            refine tk 36 ⟨some 49, .fieldAddr 53 (.tmp 2) 1, 0, "l11_group.go:7", #[⟨28, .guard⟩], some (28, false)⟩ hHeld ?_
            try go_frame
            refine tk 37 ⟨some 50, .load 25 (.tmp 49), 25, "l11_group.go:7", #[⟨36, .data⟩, ⟨28, .guard⟩], some (28, false)⟩ hHeld ?_
            try go_frame
            refine rd1 35 ⟨some 48, .call { callee := .value (.func 35), args := #[.tmp 46, .tmp 47], argTypes := #[27, 28] }, 25, "l11_group.go:7", #[⟨33, .data⟩, ⟨34, .data⟩, ⟨28, .chain⟩, ⟨28, .guard⟩], some (28, false)⟩ (fun K hK => ?_)
            go_simp
            refine (HKE.out _ Z1.out).mono ?_
            rintro r wyg2x35 ⟨⟨MK, ck, rfl, hOK⟩, hb3⟩
            have Z3 : Hid (Below wr.heap.size wr wyg2x35) := grow_on Z1.out hb3
            have HO3 : Hid (Reads wyg2x35 (some ⟨MK, 0, none⟩) (projB (nthP P k).l by')) := own_reads hOK
            clear hb3 hOK
            clear hHeld
            refine hK.out _ _ (HS.out _ Z3.out) (fun hHeld => ?_)
            clear hK K
            try go_frame
            refine rd1 38 ⟨some 51, .call { callee := .value (.func 49), args := #[.tmp 48, .tmp 50], argTypes := #[25, 25] }, 4, "l11_group.go:7", #[⟨35, .data⟩, ⟨37, .data⟩, ⟨35, .chain⟩, ⟨28, .guard⟩], some (28, false)⟩ (fun K hK => ?_)
            go_simp
            refine (calls_drew (specSame_any _ _ _ _ (projB (nthP P k).l by') key _ HO3.out (HK.out.1.below (grow_on HBw.out Z3.out)) HPL.out HK.out.2.1)).mono ?_
            rintro r wyg2x38 ⟨rfl, hb4⟩
            have Z4 : Hid (Below wr.heap.size wr wyg2x38) := grow_on Z3.out hb4
            clear hb4
            try rw [hSm]
            clear hHeld
            refine hK.out _ _ (HS.out _ Z4.out) (fun hHeld => ?_)
            clear hK K
            try go_frame
            refine tk 39 ⟨some 52, .unOp .not 4 (.tmp 51), 4, "l11_group.go:7", #[⟨38, .data⟩, ⟨28, .guard⟩], some (28, false)⟩ hHeld ?_
            try go_frame
            refine tk 40 ⟨some 53, .pick (.tmp 41) (.const (.bool true)) (.tmp 52), 4, "l11_group.go:7", #[⟨28, .data⟩, ⟨39, .data⟩], none⟩ hHeld ?_
            try go_frame
            refine wpAnyH_done (by kernel_rfl) ?_ _
            clear hHeld
            go_wp2
            go_ret
            exact ⟨retB HE.out.symm, grow_on HBw.out Z4.out⟩
          | true =>
            have HG : Hid (grAt key P by' k = true) := by unfold Hid grAt; rw [hA, hSm, decide_eq_true K0.out]; rfl
            have HU1 : Hid (∀ j, j < k + 1 → grAt key P by' j = true) := fun j hj => by
              by_cases e : j = k
              · rw [e]; exact HG.out
              · exact HU.out j (by omega)
            have HS : Hid (∀ w', Below wr.heap.size wr w' → w'.cell? ⟨w.heap.size, 1, none⟩ = some (.slice ka key.length kc) ∧ w'.cell? ⟨w.heap.size, 4, none⟩ = some (.slice (some ⟨bb, off, none⟩) P.length cap) ∧ w'.cell? ⟨bb, off + k * 4, none⟩ = some (.slice ad (nthP P k).l.length cp) ∧ w'.cell? ⟨bb, off + k * 4 + 1, none⟩ = some (.int .i64 (nthP P k).s) ∧ w'.cell? ⟨bb, off + k * 4 + 2, none⟩ = some (.int .i64 (nthP P k).e) ∧ w'.cell? ⟨bb, off + k * 4 + 3, none⟩ = some (.string (nthP P k).n)) := fun w' h => ⟨(BP.out.grow h).cell 1, (BP.out.grow h).cell 4, (h.cell (p := ⟨bb, off + k * 4, none⟩) hbb).trans HA.out.c0, (h.cell (p := ⟨bb, off + k * 4 + 1, none⟩) hbb).trans HA.out.c1, (h.cell (p := ⟨bb, off + k * 4 + 2, none⟩) hbb).trans HA.out.c2, (h.cell (p := ⟨bb, off + k * 4 + 3, none⟩) hbb).trans HA.out.c3⟩
            go_upto_region 4 with fail
            refine wp_region_held_drew (S := fun w' => w'.cell? ⟨w.heap.size, 1, none⟩ = some (.slice ka key.length kc) ∧ w'.cell? ⟨w.heap.size, 4, none⟩ = some (.slice (some ⟨bb, off, none⟩) P.length cap) ∧ w'.cell? ⟨bb, off + k * 4, none⟩ = some (.slice ad (nthP P k).l.length cp) ∧ w'.cell? ⟨bb, off + k * 4 + 1, none⟩ = some (.int .i64 (nthP P k).s) ∧ w'.cell? ⟨bb, off + k * 4 + 2, none⟩ = some (.int .i64 (nthP P k).e) ∧ w'.cell? ⟨bb, off + k * 4 + 3, none⟩ = some (.string (nthP P k).n)) (by kernel_rfl) (HS.out _ (Below.refl wr.heap.size wr).drew) (fun hHeld => ?_)
            refine tk 0 ⟨some 13, .fieldAddr 53 (.tmp 2) 4, 0, "l11_group.go:7", #[], none⟩ hHeld ?_
            try go_frame
            refine tk 1 ⟨some 14, .load 35 (.tmp 13), 35, "l11_group.go:7", #[⟨0, .data⟩], none⟩ hHeld ?_
            try go_frame
            refine tk 2 ⟨some 15, .move (.tmp 5), 3, "l11_group.go:7", #[], none⟩ hHeld ?_
            try go_frame
            refine tk 3 ⟨some 16, .indexAddr 35 (.tmp 14) (.tmp 15), 0, "l11_group.go:7", #[⟨1, .data⟩, ⟨2, .data⟩], none⟩ hHeld ?_
            try go_frame
            refine tk 4 ⟨some 17, .load 27 (.tmp 16), 27, "l11_group.go:7", #[⟨3, .data⟩], none⟩ hHeld ?_
            try go_frame
            refine rd1 5 ⟨some 18, .call { callee := .value (.func 81), args := #[.tmp 17], argTypes := #[27] }, 4, "l11_group.go:7", #[⟨4, .data⟩], none⟩ (fun K hK => ?_)
            go_simp
            refine (HOK.out _ (Below.refl wr.heap.size wr).drew).mono ?_
            rintro r wyg3x5 ⟨rfl, hb1⟩
            have Z1 : Hid (Below wr.heap.size wr wyg3x5) := grow_on (Below.refl wr.heap.size wr).drew hb1
            clear hb1
            try rw [hA]
            clear hHeld
            refine hK.out _ _ (HS.out _ Z1.out) (fun hHeld => ?_)
            clear hK K
            try go_frame
            refine tk 6 ⟨some 19, .unOp .not 4 (.tmp 18), 4, "l11_group.go:7", #[⟨5, .data⟩], none⟩ hHeld ?_
            try go_frame
            refine tk 7 ⟨some 20, .move (.tmp 19), 4, "l11_group.go:7", #[⟨6, .data⟩, ⟨5, .chain⟩], none⟩ hHeld ?_
            try go_frame
            refine tk 8 ⟨some 21, .move (.tmp 5), 3, "l11_group.go:7", #[⟨7, .guard⟩], some (7, false)⟩ hHeld ?_
            try go_frame
            refine tk 9 ⟨some 22, .binOp .gtr 3 (.tmp 21) (.const (.int .i64 0)) 3, 4, "l11_group.go:7", #[⟨8, .data⟩, ⟨7, .guard⟩], some (7, false)⟩ hHeld ?_
            try go_frame
            refine tk 10 ⟨some 23, .move (.tmp 22), 4, "l11_group.go:7", #[⟨9, .data⟩, ⟨7, .chain⟩, ⟨7, .guard⟩], some (7, false)⟩ hHeld ?_
            try go_frame
            refine sk 11 ⟨some 24, .fieldAddr 53 (.tmp 2) 4, 0, "l11_group.go:7", #[⟨10, .guard⟩], some (10, true)⟩ hHeld ?_
            try go_frame
            refine sk 12 ⟨some 25, .load 35 (.tmp 24), 35, "l11_group.go:7", #[⟨11, .data⟩, ⟨10, .guard⟩], some (10, true)⟩ hHeld ?_
            try go_frame
            refine sk 13 ⟨some 26, .move (.tmp 5), 3, "l11_group.go:7", #[⟨10, .guard⟩], some (10, true)⟩ hHeld ?_
            try go_frame
            refine sk 14 ⟨some 27, .binOp .sub 3 (.tmp 26) (.const (.int .i64 1)) 3, 3, "l11_group.go:7", #[⟨13, .data⟩, ⟨10, .guard⟩], some (10, true)⟩ hHeld ?_
            try go_frame
            refine sk 15 ⟨some 28, .indexAddr 35 (.tmp 25) (.tmp 27), 0, "l11_group.go:7", #[⟨12, .data⟩, ⟨14, .data⟩, ⟨10, .guard⟩], some (10, true)⟩ hHeld ?_
            try go_frame
            refine sk 16 ⟨some 29, .fieldAddr 27 (.tmp 28) 0, 0, "l11_group.go:7", #[⟨15, .data⟩, ⟨10, .guard⟩], some (10, true)⟩ hHeld ?_
            try go_frame
            refine sk 17 ⟨some 30, .load 25 (.tmp 29), 25, "l11_group.go:7", #[⟨16, .data⟩, ⟨10, .guard⟩], some (10, true)⟩ hHeld ?_
            try go_frame
            refine sk 18 ⟨some 31, .fieldAddr 53 (.tmp 2) 4, 0, "l11_group.go:7", #[⟨10, .guard⟩], some (10, true)⟩ hHeld ?_
            try go_frame
            refine sk 19 ⟨some 32, .load 35 (.tmp 31), 35, "l11_group.go:7", #[⟨18, .data⟩, ⟨10, .guard⟩], some (10, true)⟩ hHeld ?_
            try go_frame
            refine sk 20 ⟨some 33, .move (.tmp 5), 3, "l11_group.go:7", #[⟨10, .guard⟩], some (10, true)⟩ hHeld ?_
            try go_frame
            refine sk 21 ⟨some 34, .indexAddr 35 (.tmp 32) (.tmp 33), 0, "l11_group.go:7", #[⟨19, .data⟩, ⟨20, .data⟩, ⟨10, .guard⟩], some (10, true)⟩ hHeld ?_
            try go_frame
            refine sk 22 ⟨some 35, .fieldAddr 27 (.tmp 34) 0, 0, "l11_group.go:7", #[⟨21, .data⟩, ⟨10, .guard⟩], some (10, true)⟩ hHeld ?_
            try go_frame
            refine sk 23 ⟨some 36, .load 25 (.tmp 35), 25, "l11_group.go:7", #[⟨22, .data⟩, ⟨10, .guard⟩], some (10, true)⟩ hHeld ?_
            try go_frame
            refine sk 24 ⟨some 37, .call { callee := .value (.func 66), args := #[.tmp 30, .tmp 36], argTypes := #[25, 25] }, 4, "l11_group.go:7", #[⟨17, .data⟩, ⟨23, .data⟩, ⟨10, .chain⟩, ⟨10, .guard⟩], some (10, true)⟩ hHeld ?_
            try go_frame
            refine sk 25 ⟨some 38, .unOp .not 4 (.tmp 37), 4, "l11_group.go:7", #[⟨24, .data⟩, ⟨10, .guard⟩], some (10, true)⟩ hHeld ?_
            try go_frame
            refine tk 26 ⟨some 39, .pick (.tmp 23) (.tmp 38) (.const (.bool false)), 4, "l11_group.go:7", #[⟨10, .data⟩, ⟨25, .data⟩, ⟨7, .guard⟩], some (7, false)⟩ hHeld ?_
            try go_frame
            refine tk 27 ⟨some 40, .pick (.tmp 20) (.const (.bool true)) (.tmp 39), 4, "l11_group.go:7", #[⟨7, .data⟩, ⟨26, .data⟩], none⟩ hHeld ?_
            try go_frame
            refine tk 28 ⟨some 41, .move (.tmp 40), 4, "l11_group.go:7", #[⟨27, .data⟩, ⟨24, .chain⟩], none⟩ hHeld ?_
            try go_frame
            refine tk 29 ⟨some 42, .fieldAddr 53 (.tmp 2) 4, 0, "l11_group.go:7", #[⟨28, .guard⟩], some (28, false)⟩ hHeld ?_
            try go_frame
            refine tk 30 ⟨some 43, .load 35 (.tmp 42), 35, "l11_group.go:7", #[⟨29, .data⟩, ⟨28, .guard⟩], some (28, false)⟩ hHeld ?_
            try go_frame
            refine tk 31 ⟨some 44, .move (.tmp 5), 3, "l11_group.go:7", #[⟨28, .guard⟩], some (28, false)⟩ hHeld ?_
            try go_frame
            refine tk 32 ⟨some 45, .indexAddr 35 (.tmp 43) (.tmp 44), 0, "l11_group.go:7", #[⟨30, .data⟩, ⟨31, .data⟩, ⟨28, .guard⟩], some (28, false)⟩ hHeld ?_
            try go_frame
            refine tk 33 ⟨some 46, .load 27 (.tmp 45), 27, "l11_group.go:7", #[⟨32, .data⟩, ⟨28, .guard⟩], some (28, false)⟩ hHeld ?_
            try go_frame
            refine tk 34 ⟨some 47, .move (.tmp 1), 28, "l11_group.go:7", #[⟨28, .guard⟩], some (28, false)⟩ hHeld ?_
            try go_frame
            refine tk 36 ⟨some 49, .fieldAddr 53 (.tmp 2) 1, 0, "l11_group.go:7", #[⟨28, .guard⟩], some (28, false)⟩ hHeld ?_
            try go_frame
            refine tk 37 ⟨some 50, .load 25 (.tmp 49), 25, "l11_group.go:7", #[⟨36, .data⟩, ⟨28, .guard⟩], some (28, false)⟩ hHeld ?_
            try go_frame
            refine rd1 35 ⟨some 48, .call { callee := .value (.func 35), args := #[.tmp 46, .tmp 47], argTypes := #[27, 28] }, 25, "l11_group.go:7", #[⟨33, .data⟩, ⟨34, .data⟩, ⟨28, .chain⟩, ⟨28, .guard⟩], some (28, false)⟩ (fun K hK => ?_)
            go_simp
            refine (HKE.out _ Z1.out).mono ?_
            rintro r wyg3x35 ⟨⟨MK, ck, rfl, hOK⟩, hb3⟩
            have Z3 : Hid (Below wr.heap.size wr wyg3x35) := grow_on Z1.out hb3
            have HO3 : Hid (Reads wyg3x35 (some ⟨MK, 0, none⟩) (projB (nthP P k).l by')) := own_reads hOK
            clear hb3 hOK
            clear hHeld
            refine hK.out _ _ (HS.out _ Z3.out) (fun hHeld => ?_)
            clear hK K
            try go_frame
            refine rd1 38 ⟨some 51, .call { callee := .value (.func 49), args := #[.tmp 48, .tmp 50], argTypes := #[25, 25] }, 4, "l11_group.go:7", #[⟨35, .data⟩, ⟨37, .data⟩, ⟨35, .chain⟩, ⟨28, .guard⟩], some (28, false)⟩ (fun K hK => ?_)
            go_simp
            refine (calls_drew (specSame_any _ _ _ _ (projB (nthP P k).l by') key _ HO3.out (HK.out.1.below (grow_on HBw.out Z3.out)) HPL.out HK.out.2.1)).mono ?_
            rintro r wyg3x38 ⟨rfl, hb4⟩
            have Z4 : Hid (Below wr.heap.size wr wyg3x38) := grow_on Z3.out hb4
            clear hb4
            try rw [hSm]
            clear hHeld
            refine hK.out _ _ (HS.out _ Z4.out) (fun hHeld => ?_)
            clear hK K
            try go_frame
            refine tk 39 ⟨some 52, .unOp .not 4 (.tmp 51), 4, "l11_group.go:7", #[⟨38, .data⟩, ⟨28, .guard⟩], some (28, false)⟩ hHeld ?_
            try go_frame
            refine tk 40 ⟨some 53, .pick (.tmp 41) (.const (.bool true)) (.tmp 52), 4, "l11_group.go:7", #[⟨28, .data⟩, ⟨39, .data⟩], none⟩ hHeld ?_
            try go_frame
            refine wpAnyH_done (by kernel_rfl) ?_ _
            clear hHeld
            go_wp2
            go_roundw
            case rel => exact ⟨k + 1, by go_num, by omega, HU1.out, grow_on HBr.out Z4.out⟩
            case measure => simp [intOf]; omega
        · have hk0 : (0 : Int) < (k : Int) := by omega
          have bk : decide (0 < k) = true := decide_eq_true (by omega)
          obtain ⟨m, hm⟩ : ∃ m, k = m + 1 := ⟨k - 1, by omega⟩
          have em : (k : Int) - 1 = (m : Int) := by omega
          have hml : m < P.length := by omega
          have hml' : (m : Int) < (P.length : Int) := by omega
          have hwm : IntKind.i64.wrap (m : Int) = (m : Int) := by rw [IntKind.wrap_i64]; omega
          have hmk : k - 1 = m := by omega
          obtain ⟨bb2, off2, e2, _, ad2, cp2, hat2⟩ := (HR.out.1.below HBw.out).get hml
          cases e2
          have HA2 : Hid (At wr bb off m (nthP P m) ad2 cp2) := hat2
          have HLE : Hid (∀ y, Below wr.heap.size wr y → Calls Tryz.prog 66 #[.slice ad2 (nthP P m).l.length cp2, .slice ad (nthP P k).l.length cp] y fun e w' => e = .returned (.bool (slB (nthP P m).l (nthP P k).l)) ∧ Below y.heap.size y w') := fun y hy => calls_drew (LabL.specLessS_any _ _ _ _ _ _ y (hat2.reads.below hy) (HA.out.reads.below hy) (by have := HR.out.2.2 m hml; unfold maxLen; omega) (by have := HR.out.2.2 k hlt; unfold maxLen; omega))
          clear hat2 hm
          cases hLs : slB (nthP P m).l (nthP P k).l with
          | false =>
            have HE : Hid (groupB n key b t P by' = false) := group_bad hlt (by unfold grAt; rw [hA, hmk, hLs, decide_eq_false k0]; rfl)
            clear hmk k0
            have HS : Hid (∀ w', Below wr.heap.size wr w' → w'.cell? ⟨w.heap.size, 1, none⟩ = some (.slice ka key.length kc) ∧ w'.cell? ⟨w.heap.size, 4, none⟩ = some (.slice (some ⟨bb, off, none⟩) P.length cap) ∧ w'.cell? ⟨bb, off + k * 4, none⟩ = some (.slice ad (nthP P k).l.length cp) ∧ w'.cell? ⟨bb, off + k * 4 + 1, none⟩ = some (.int .i64 (nthP P k).s) ∧ w'.cell? ⟨bb, off + k * 4 + 2, none⟩ = some (.int .i64 (nthP P k).e) ∧ w'.cell? ⟨bb, off + k * 4 + 3, none⟩ = some (.string (nthP P k).n) ∧ w'.cell? ⟨bb, off + m * 4, none⟩ = some (.slice ad2 (nthP P m).l.length cp2)) := fun w' h => ⟨(BP.out.grow h).cell 1, (BP.out.grow h).cell 4, (h.cell (p := ⟨bb, off + k * 4, none⟩) hbb).trans HA.out.c0, (h.cell (p := ⟨bb, off + k * 4 + 1, none⟩) hbb).trans HA.out.c1, (h.cell (p := ⟨bb, off + k * 4 + 2, none⟩) hbb).trans HA.out.c2, (h.cell (p := ⟨bb, off + k * 4 + 3, none⟩) hbb).trans HA.out.c3, (h.cell (p := ⟨bb, off + m * 4, none⟩) hbb).trans HA2.out.c0⟩
            go_upto_region 4 with fail
            refine wp_region_held_drew (S := fun w' => w'.cell? ⟨w.heap.size, 1, none⟩ = some (.slice ka key.length kc) ∧ w'.cell? ⟨w.heap.size, 4, none⟩ = some (.slice (some ⟨bb, off, none⟩) P.length cap) ∧ w'.cell? ⟨bb, off + k * 4, none⟩ = some (.slice ad (nthP P k).l.length cp) ∧ w'.cell? ⟨bb, off + k * 4 + 1, none⟩ = some (.int .i64 (nthP P k).s) ∧ w'.cell? ⟨bb, off + k * 4 + 2, none⟩ = some (.int .i64 (nthP P k).e) ∧ w'.cell? ⟨bb, off + k * 4 + 3, none⟩ = some (.string (nthP P k).n) ∧ w'.cell? ⟨bb, off + m * 4, none⟩ = some (.slice ad2 (nthP P m).l.length cp2)) (by kernel_rfl) (HS.out _ (Below.refl wr.heap.size wr).drew) (fun hHeld => ?_)
            refine tk 0 ⟨some 13, .fieldAddr 53 (.tmp 2) 4, 0, "l11_group.go:7", #[], none⟩ hHeld ?_
            try go_frame
            refine tk 1 ⟨some 14, .load 35 (.tmp 13), 35, "l11_group.go:7", #[⟨0, .data⟩], none⟩ hHeld ?_
            try go_frame
            refine tk 2 ⟨some 15, .move (.tmp 5), 3, "l11_group.go:7", #[], none⟩ hHeld ?_
            try go_frame
            refine tk 3 ⟨some 16, .indexAddr 35 (.tmp 14) (.tmp 15), 0, "l11_group.go:7", #[⟨1, .data⟩, ⟨2, .data⟩], none⟩ hHeld ?_
            try go_frame
            refine tk 4 ⟨some 17, .load 27 (.tmp 16), 27, "l11_group.go:7", #[⟨3, .data⟩], none⟩ hHeld ?_
            try go_frame
            refine rd1 5 ⟨some 18, .call { callee := .value (.func 81), args := #[.tmp 17], argTypes := #[27] }, 4, "l11_group.go:7", #[⟨4, .data⟩], none⟩ (fun K hK => ?_)
            go_simp
            refine (HOK.out _ (Below.refl wr.heap.size wr).drew).mono ?_
            rintro r wyg4x5 ⟨rfl, hb1⟩
            have Z1 : Hid (Below wr.heap.size wr wyg4x5) := grow_on (Below.refl wr.heap.size wr).drew hb1
            clear hb1
            try rw [hA]
            clear hHeld
            refine hK.out _ _ (HS.out _ Z1.out) (fun hHeld => ?_)
            clear hK K
            try go_frame
            refine tk 6 ⟨some 19, .unOp .not 4 (.tmp 18), 4, "l11_group.go:7", #[⟨5, .data⟩], none⟩ hHeld ?_
            try go_frame
            refine tk 7 ⟨some 20, .move (.tmp 19), 4, "l11_group.go:7", #[⟨6, .data⟩, ⟨5, .chain⟩], none⟩ hHeld ?_
            try go_frame
            refine tk 8 ⟨some 21, .move (.tmp 5), 3, "l11_group.go:7", #[⟨7, .guard⟩], some (7, false)⟩ hHeld ?_
            try go_frame
            refine tk 9 ⟨some 22, .binOp .gtr 3 (.tmp 21) (.const (.int .i64 0)) 3, 4, "l11_group.go:7", #[⟨8, .data⟩, ⟨7, .guard⟩], some (7, false)⟩ hHeld ?_
            try go_frame
            refine tk 10 ⟨some 23, .move (.tmp 22), 4, "l11_group.go:7", #[⟨9, .data⟩, ⟨7, .chain⟩, ⟨7, .guard⟩], some (7, false)⟩ hHeld ?_
            try go_frame
            refine tk 11 ⟨some 24, .fieldAddr 53 (.tmp 2) 4, 0, "l11_group.go:7", #[⟨10, .guard⟩], some (10, true)⟩ hHeld ?_
            try go_frame
            refine tk 12 ⟨some 25, .load 35 (.tmp 24), 35, "l11_group.go:7", #[⟨11, .data⟩, ⟨10, .guard⟩], some (10, true)⟩ hHeld ?_
            try go_frame
            refine tk 13 ⟨some 26, .move (.tmp 5), 3, "l11_group.go:7", #[⟨10, .guard⟩], some (10, true)⟩ hHeld ?_
            try go_frame
            refine tk 14 ⟨some 27, .binOp .sub 3 (.tmp 26) (.const (.int .i64 1)) 3, 3, "l11_group.go:7", #[⟨13, .data⟩, ⟨10, .guard⟩], some (10, true)⟩ hHeld ?_
            try go_frame
            refine tk 15 ⟨some 28, .indexAddr 35 (.tmp 25) (.tmp 27), 0, "l11_group.go:7", #[⟨12, .data⟩, ⟨14, .data⟩, ⟨10, .guard⟩], some (10, true)⟩ hHeld ?_
            try go_frame
            refine tk 16 ⟨some 29, .fieldAddr 27 (.tmp 28) 0, 0, "l11_group.go:7", #[⟨15, .data⟩, ⟨10, .guard⟩], some (10, true)⟩ hHeld ?_
            try go_frame
            refine tk 17 ⟨some 30, .load 25 (.tmp 29), 25, "l11_group.go:7", #[⟨16, .data⟩, ⟨10, .guard⟩], some (10, true)⟩ hHeld ?_
            try go_frame
            refine tk 18 ⟨some 31, .fieldAddr 53 (.tmp 2) 4, 0, "l11_group.go:7", #[⟨10, .guard⟩], some (10, true)⟩ hHeld ?_
            try go_frame
            refine tk 19 ⟨some 32, .load 35 (.tmp 31), 35, "l11_group.go:7", #[⟨18, .data⟩, ⟨10, .guard⟩], some (10, true)⟩ hHeld ?_
            try go_frame
            refine tk 20 ⟨some 33, .move (.tmp 5), 3, "l11_group.go:7", #[⟨10, .guard⟩], some (10, true)⟩ hHeld ?_
            try go_frame
            refine tk 21 ⟨some 34, .indexAddr 35 (.tmp 32) (.tmp 33), 0, "l11_group.go:7", #[⟨19, .data⟩, ⟨20, .data⟩, ⟨10, .guard⟩], some (10, true)⟩ hHeld ?_
            try go_frame
            refine tk 22 ⟨some 35, .fieldAddr 27 (.tmp 34) 0, 0, "l11_group.go:7", #[⟨21, .data⟩, ⟨10, .guard⟩], some (10, true)⟩ hHeld ?_
            try go_frame
            refine tk 23 ⟨some 36, .load 25 (.tmp 35), 25, "l11_group.go:7", #[⟨22, .data⟩, ⟨10, .guard⟩], some (10, true)⟩ hHeld ?_
            try go_frame
            refine rd1 24 ⟨some 37, .call { callee := .value (.func 66), args := #[.tmp 30, .tmp 36], argTypes := #[25, 25] }, 4, "l11_group.go:7", #[⟨17, .data⟩, ⟨23, .data⟩, ⟨10, .chain⟩, ⟨10, .guard⟩], some (10, true)⟩ (fun K hK => ?_)
            go_simp
            refine (HLE.out _ Z1.out).mono ?_
            rintro r wyg4x24 ⟨rfl, hb2⟩
            have Z2 : Hid (Below wr.heap.size wr wyg4x24) := grow_on Z1.out hb2
            clear hb2
            try rw [hLs]
            clear hHeld
            refine hK.out _ _ (HS.out _ Z2.out) (fun hHeld => ?_)
            clear hK K
            try go_frame
            refine tk 25 ⟨some 38, .unOp .not 4 (.tmp 37), 4, "l11_group.go:7", #[⟨24, .data⟩, ⟨10, .guard⟩], some (10, true)⟩ hHeld ?_
            try go_frame
            refine tk 26 ⟨some 39, .pick (.tmp 23) (.tmp 38) (.const (.bool false)), 4, "l11_group.go:7", #[⟨10, .data⟩, ⟨25, .data⟩, ⟨7, .guard⟩], some (7, false)⟩ hHeld ?_
            try go_frame
            refine tk 27 ⟨some 40, .pick (.tmp 20) (.const (.bool true)) (.tmp 39), 4, "l11_group.go:7", #[⟨7, .data⟩, ⟨26, .data⟩], none⟩ hHeld ?_
            try go_frame
            refine tk 28 ⟨some 41, .move (.tmp 40), 4, "l11_group.go:7", #[⟨27, .data⟩, ⟨24, .chain⟩], none⟩ hHeld ?_
            try go_frame
            refine sk 29 ⟨some 42, .fieldAddr 53 (.tmp 2) 4, 0, "l11_group.go:7", #[⟨28, .guard⟩], some (28, false)⟩ hHeld ?_
            try go_frame
            refine sk 30 ⟨some 43, .load 35 (.tmp 42), 35, "l11_group.go:7", #[⟨29, .data⟩, ⟨28, .guard⟩], some (28, false)⟩ hHeld ?_
            try go_frame
            refine sk 31 ⟨some 44, .move (.tmp 5), 3, "l11_group.go:7", #[⟨28, .guard⟩], some (28, false)⟩ hHeld ?_
            try go_frame
            refine sk 32 ⟨some 45, .indexAddr 35 (.tmp 43) (.tmp 44), 0, "l11_group.go:7", #[⟨30, .data⟩, ⟨31, .data⟩, ⟨28, .guard⟩], some (28, false)⟩ hHeld ?_
            try go_frame
            refine sk 33 ⟨some 46, .load 27 (.tmp 45), 27, "l11_group.go:7", #[⟨32, .data⟩, ⟨28, .guard⟩], some (28, false)⟩ hHeld ?_
            try go_frame
            refine sk 34 ⟨some 47, .move (.tmp 1), 28, "l11_group.go:7", #[⟨28, .guard⟩], some (28, false)⟩ hHeld ?_
            try go_frame
            refine sk 35 ⟨some 48, .call { callee := .value (.func 35), args := #[.tmp 46, .tmp 47], argTypes := #[27, 28] }, 25, "l11_group.go:7", #[⟨33, .data⟩, ⟨34, .data⟩, ⟨28, .chain⟩, ⟨28, .guard⟩], some (28, false)⟩ hHeld ?_
            try go_frame
            refine sk 36 ⟨some 49, .fieldAddr 53 (.tmp 2) 1, 0, "l11_group.go:7", #[⟨28, .guard⟩], some (28, false)⟩ hHeld ?_
            try go_frame
            refine sk 37 ⟨some 50, .load 25 (.tmp 49), 25, "l11_group.go:7", #[⟨36, .data⟩, ⟨28, .guard⟩], some (28, false)⟩ hHeld ?_
            try go_frame
            refine sk 38 ⟨some 51, .call { callee := .value (.func 49), args := #[.tmp 48, .tmp 50], argTypes := #[25, 25] }, 4, "l11_group.go:7", #[⟨35, .data⟩, ⟨37, .data⟩, ⟨35, .chain⟩, ⟨28, .guard⟩], some (28, false)⟩ hHeld ?_
            try go_frame
            refine sk 39 ⟨some 52, .unOp .not 4 (.tmp 51), 4, "l11_group.go:7", #[⟨38, .data⟩, ⟨28, .guard⟩], some (28, false)⟩ hHeld ?_
            try go_frame
            refine tk 40 ⟨some 53, .pick (.tmp 41) (.const (.bool true)) (.tmp 52), 4, "l11_group.go:7", #[⟨28, .data⟩, ⟨39, .data⟩], none⟩ hHeld ?_
            try go_frame
            refine wpAnyH_done (by kernel_rfl) ?_ _
            clear hHeld
            go_wp2
            go_ret
            exact ⟨retB HE.out.symm, grow_on HBw.out Z2.out⟩
          | true =>
            cases hSm : decide (projB (nthP P k).l by' = key) with
            | false =>
              have HE : Hid (groupB n key b t P by' = false) := group_bad hlt (by unfold grAt; rw [hA, hSm]; simp)
              clear hmk k0
              have HS : Hid (∀ w', Below wr.heap.size wr w' → w'.cell? ⟨w.heap.size, 1, none⟩ = some (.slice ka key.length kc) ∧ w'.cell? ⟨w.heap.size, 4, none⟩ = some (.slice (some ⟨bb, off, none⟩) P.length cap) ∧ w'.cell? ⟨bb, off + k * 4, none⟩ = some (.slice ad (nthP P k).l.length cp) ∧ w'.cell? ⟨bb, off + k * 4 + 1, none⟩ = some (.int .i64 (nthP P k).s) ∧ w'.cell? ⟨bb, off + k * 4 + 2, none⟩ = some (.int .i64 (nthP P k).e) ∧ w'.cell? ⟨bb, off + k * 4 + 3, none⟩ = some (.string (nthP P k).n) ∧ w'.cell? ⟨bb, off + m * 4, none⟩ = some (.slice ad2 (nthP P m).l.length cp2)) := fun w' h => ⟨(BP.out.grow h).cell 1, (BP.out.grow h).cell 4, (h.cell (p := ⟨bb, off + k * 4, none⟩) hbb).trans HA.out.c0, (h.cell (p := ⟨bb, off + k * 4 + 1, none⟩) hbb).trans HA.out.c1, (h.cell (p := ⟨bb, off + k * 4 + 2, none⟩) hbb).trans HA.out.c2, (h.cell (p := ⟨bb, off + k * 4 + 3, none⟩) hbb).trans HA.out.c3, (h.cell (p := ⟨bb, off + m * 4, none⟩) hbb).trans HA2.out.c0⟩
              go_upto_region 4 with fail
              refine wp_region_held_drew (S := fun w' => w'.cell? ⟨w.heap.size, 1, none⟩ = some (.slice ka key.length kc) ∧ w'.cell? ⟨w.heap.size, 4, none⟩ = some (.slice (some ⟨bb, off, none⟩) P.length cap) ∧ w'.cell? ⟨bb, off + k * 4, none⟩ = some (.slice ad (nthP P k).l.length cp) ∧ w'.cell? ⟨bb, off + k * 4 + 1, none⟩ = some (.int .i64 (nthP P k).s) ∧ w'.cell? ⟨bb, off + k * 4 + 2, none⟩ = some (.int .i64 (nthP P k).e) ∧ w'.cell? ⟨bb, off + k * 4 + 3, none⟩ = some (.string (nthP P k).n) ∧ w'.cell? ⟨bb, off + m * 4, none⟩ = some (.slice ad2 (nthP P m).l.length cp2)) (by kernel_rfl) (HS.out _ (Below.refl wr.heap.size wr).drew) (fun hHeld => ?_)
              refine tk 0 ⟨some 13, .fieldAddr 53 (.tmp 2) 4, 0, "l11_group.go:7", #[], none⟩ hHeld ?_
              try go_frame
              refine tk 1 ⟨some 14, .load 35 (.tmp 13), 35, "l11_group.go:7", #[⟨0, .data⟩], none⟩ hHeld ?_
              try go_frame
              refine tk 2 ⟨some 15, .move (.tmp 5), 3, "l11_group.go:7", #[], none⟩ hHeld ?_
              try go_frame
              refine tk 3 ⟨some 16, .indexAddr 35 (.tmp 14) (.tmp 15), 0, "l11_group.go:7", #[⟨1, .data⟩, ⟨2, .data⟩], none⟩ hHeld ?_
              try go_frame
              refine tk 4 ⟨some 17, .load 27 (.tmp 16), 27, "l11_group.go:7", #[⟨3, .data⟩], none⟩ hHeld ?_
              try go_frame
              refine rd1 5 ⟨some 18, .call { callee := .value (.func 81), args := #[.tmp 17], argTypes := #[27] }, 4, "l11_group.go:7", #[⟨4, .data⟩], none⟩ (fun K hK => ?_)
              go_simp
              refine (HOK.out _ (Below.refl wr.heap.size wr).drew).mono ?_
              rintro r wyg5x5 ⟨rfl, hb1⟩
              have Z1 : Hid (Below wr.heap.size wr wyg5x5) := grow_on (Below.refl wr.heap.size wr).drew hb1
              clear hb1
              try rw [hA]
              clear hHeld
              refine hK.out _ _ (HS.out _ Z1.out) (fun hHeld => ?_)
              clear hK K
              try go_frame
              refine tk 6 ⟨some 19, .unOp .not 4 (.tmp 18), 4, "l11_group.go:7", #[⟨5, .data⟩], none⟩ hHeld ?_
              try go_frame
              refine tk 7 ⟨some 20, .move (.tmp 19), 4, "l11_group.go:7", #[⟨6, .data⟩, ⟨5, .chain⟩], none⟩ hHeld ?_
              try go_frame
              refine tk 8 ⟨some 21, .move (.tmp 5), 3, "l11_group.go:7", #[⟨7, .guard⟩], some (7, false)⟩ hHeld ?_
              try go_frame
              refine tk 9 ⟨some 22, .binOp .gtr 3 (.tmp 21) (.const (.int .i64 0)) 3, 4, "l11_group.go:7", #[⟨8, .data⟩, ⟨7, .guard⟩], some (7, false)⟩ hHeld ?_
              try go_frame
              refine tk 10 ⟨some 23, .move (.tmp 22), 4, "l11_group.go:7", #[⟨9, .data⟩, ⟨7, .chain⟩, ⟨7, .guard⟩], some (7, false)⟩ hHeld ?_
              try go_frame
              refine tk 11 ⟨some 24, .fieldAddr 53 (.tmp 2) 4, 0, "l11_group.go:7", #[⟨10, .guard⟩], some (10, true)⟩ hHeld ?_
              try go_frame
              refine tk 12 ⟨some 25, .load 35 (.tmp 24), 35, "l11_group.go:7", #[⟨11, .data⟩, ⟨10, .guard⟩], some (10, true)⟩ hHeld ?_
              try go_frame
              refine tk 13 ⟨some 26, .move (.tmp 5), 3, "l11_group.go:7", #[⟨10, .guard⟩], some (10, true)⟩ hHeld ?_
              try go_frame
              refine tk 14 ⟨some 27, .binOp .sub 3 (.tmp 26) (.const (.int .i64 1)) 3, 3, "l11_group.go:7", #[⟨13, .data⟩, ⟨10, .guard⟩], some (10, true)⟩ hHeld ?_
              try go_frame
              refine tk 15 ⟨some 28, .indexAddr 35 (.tmp 25) (.tmp 27), 0, "l11_group.go:7", #[⟨12, .data⟩, ⟨14, .data⟩, ⟨10, .guard⟩], some (10, true)⟩ hHeld ?_
              try go_frame
              refine tk 16 ⟨some 29, .fieldAddr 27 (.tmp 28) 0, 0, "l11_group.go:7", #[⟨15, .data⟩, ⟨10, .guard⟩], some (10, true)⟩ hHeld ?_
              try go_frame
              refine tk 17 ⟨some 30, .load 25 (.tmp 29), 25, "l11_group.go:7", #[⟨16, .data⟩, ⟨10, .guard⟩], some (10, true)⟩ hHeld ?_
              try go_frame
              refine tk 18 ⟨some 31, .fieldAddr 53 (.tmp 2) 4, 0, "l11_group.go:7", #[⟨10, .guard⟩], some (10, true)⟩ hHeld ?_
              try go_frame
              refine tk 19 ⟨some 32, .load 35 (.tmp 31), 35, "l11_group.go:7", #[⟨18, .data⟩, ⟨10, .guard⟩], some (10, true)⟩ hHeld ?_
              try go_frame
              refine tk 20 ⟨some 33, .move (.tmp 5), 3, "l11_group.go:7", #[⟨10, .guard⟩], some (10, true)⟩ hHeld ?_
              try go_frame
              refine tk 21 ⟨some 34, .indexAddr 35 (.tmp 32) (.tmp 33), 0, "l11_group.go:7", #[⟨19, .data⟩, ⟨20, .data⟩, ⟨10, .guard⟩], some (10, true)⟩ hHeld ?_
              try go_frame
              refine tk 22 ⟨some 35, .fieldAddr 27 (.tmp 34) 0, 0, "l11_group.go:7", #[⟨21, .data⟩, ⟨10, .guard⟩], some (10, true)⟩ hHeld ?_
              try go_frame
              refine tk 23 ⟨some 36, .load 25 (.tmp 35), 25, "l11_group.go:7", #[⟨22, .data⟩, ⟨10, .guard⟩], some (10, true)⟩ hHeld ?_
              try go_frame
              refine rd1 24 ⟨some 37, .call { callee := .value (.func 66), args := #[.tmp 30, .tmp 36], argTypes := #[25, 25] }, 4, "l11_group.go:7", #[⟨17, .data⟩, ⟨23, .data⟩, ⟨10, .chain⟩, ⟨10, .guard⟩], some (10, true)⟩ (fun K hK => ?_)
              go_simp
              refine (HLE.out _ Z1.out).mono ?_
              rintro r wyg5x24 ⟨rfl, hb2⟩
              have Z2 : Hid (Below wr.heap.size wr wyg5x24) := grow_on Z1.out hb2
              clear hb2
              try rw [hLs]
              clear hHeld
              refine hK.out _ _ (HS.out _ Z2.out) (fun hHeld => ?_)
              clear hK K
              try go_frame
              refine tk 25 ⟨some 38, .unOp .not 4 (.tmp 37), 4, "l11_group.go:7", #[⟨24, .data⟩, ⟨10, .guard⟩], some (10, true)⟩ hHeld ?_
              try go_frame
              refine tk 26 ⟨some 39, .pick (.tmp 23) (.tmp 38) (.const (.bool false)), 4, "l11_group.go:7", #[⟨10, .data⟩, ⟨25, .data⟩, ⟨7, .guard⟩], some (7, false)⟩ hHeld ?_
              try go_frame
              refine tk 27 ⟨some 40, .pick (.tmp 20) (.const (.bool true)) (.tmp 39), 4, "l11_group.go:7", #[⟨7, .data⟩, ⟨26, .data⟩], none⟩ hHeld ?_
              try go_frame
              refine tk 28 ⟨some 41, .move (.tmp 40), 4, "l11_group.go:7", #[⟨27, .data⟩, ⟨24, .chain⟩], none⟩ hHeld ?_
              try go_frame
              refine tk 29 ⟨some 42, .fieldAddr 53 (.tmp 2) 4, 0, "l11_group.go:7", #[⟨28, .guard⟩], some (28, false)⟩ hHeld ?_
              try go_frame
              refine tk 30 ⟨some 43, .load 35 (.tmp 42), 35, "l11_group.go:7", #[⟨29, .data⟩, ⟨28, .guard⟩], some (28, false)⟩ hHeld ?_
              try go_frame
              refine tk 31 ⟨some 44, .move (.tmp 5), 3, "l11_group.go:7", #[⟨28, .guard⟩], some (28, false)⟩ hHeld ?_
              try go_frame
              refine tk 32 ⟨some 45, .indexAddr 35 (.tmp 43) (.tmp 44), 0, "l11_group.go:7", #[⟨30, .data⟩, ⟨31, .data⟩, ⟨28, .guard⟩], some (28, false)⟩ hHeld ?_
              try go_frame
              refine tk 33 ⟨some 46, .load 27 (.tmp 45), 27, "l11_group.go:7", #[⟨32, .data⟩, ⟨28, .guard⟩], some (28, false)⟩ hHeld ?_
              try go_frame
              refine tk 34 ⟨some 47, .move (.tmp 1), 28, "l11_group.go:7", #[⟨28, .guard⟩], some (28, false)⟩ hHeld ?_
              try go_frame
              refine tk 36 ⟨some 49, .fieldAddr 53 (.tmp 2) 1, 0, "l11_group.go:7", #[⟨28, .guard⟩], some (28, false)⟩ hHeld ?_
              try go_frame
              refine tk 37 ⟨some 50, .load 25 (.tmp 49), 25, "l11_group.go:7", #[⟨36, .data⟩, ⟨28, .guard⟩], some (28, false)⟩ hHeld ?_
              try go_frame
              refine rd1 35 ⟨some 48, .call { callee := .value (.func 35), args := #[.tmp 46, .tmp 47], argTypes := #[27, 28] }, 25, "l11_group.go:7", #[⟨33, .data⟩, ⟨34, .data⟩, ⟨28, .chain⟩, ⟨28, .guard⟩], some (28, false)⟩ (fun K hK => ?_)
              go_simp
              refine (HKE.out _ Z2.out).mono ?_
              rintro r wyg5x35 ⟨⟨MK, ck, rfl, hOK⟩, hb3⟩
              have Z3 : Hid (Below wr.heap.size wr wyg5x35) := grow_on Z2.out hb3
              have HO3 : Hid (Reads wyg5x35 (some ⟨MK, 0, none⟩) (projB (nthP P k).l by')) := own_reads hOK
              clear hb3 hOK
              clear hHeld
              refine hK.out _ _ (HS.out _ Z3.out) (fun hHeld => ?_)
              clear hK K
              try go_frame
              refine rd1 38 ⟨some 51, .call { callee := .value (.func 49), args := #[.tmp 48, .tmp 50], argTypes := #[25, 25] }, 4, "l11_group.go:7", #[⟨35, .data⟩, ⟨37, .data⟩, ⟨35, .chain⟩, ⟨28, .guard⟩], some (28, false)⟩ (fun K hK => ?_)
              go_simp
              refine (calls_drew (specSame_any _ _ _ _ (projB (nthP P k).l by') key _ HO3.out (HK.out.1.below (grow_on HBw.out Z3.out)) HPL.out HK.out.2.1)).mono ?_
              rintro r wyg5x38 ⟨rfl, hb4⟩
              have Z4 : Hid (Below wr.heap.size wr wyg5x38) := grow_on Z3.out hb4
              clear hb4
              try rw [hSm]
              clear hHeld
              refine hK.out _ _ (HS.out _ Z4.out) (fun hHeld => ?_)
              clear hK K
              try go_frame
              refine tk 39 ⟨some 52, .unOp .not 4 (.tmp 51), 4, "l11_group.go:7", #[⟨38, .data⟩, ⟨28, .guard⟩], some (28, false)⟩ hHeld ?_
              try go_frame
              refine tk 40 ⟨some 53, .pick (.tmp 41) (.const (.bool true)) (.tmp 52), 4, "l11_group.go:7", #[⟨28, .data⟩, ⟨39, .data⟩], none⟩ hHeld ?_
              try go_frame
              refine wpAnyH_done (by kernel_rfl) ?_ _
              clear hHeld
              go_wp2
              go_ret
              exact ⟨retB HE.out.symm, grow_on HBw.out Z4.out⟩
            | true =>
              have HG : Hid (grAt key P by' k = true) := by unfold Hid grAt; rw [hA, hSm, hmk, hLs]; simp
              have HU1 : Hid (∀ j, j < k + 1 → grAt key P by' j = true) := fun j hj => by
                by_cases e : j = k
                · rw [e]; exact HG.out
                · exact HU.out j (by omega)
              clear hmk k0
              have HS : Hid (∀ w', Below wr.heap.size wr w' → w'.cell? ⟨w.heap.size, 1, none⟩ = some (.slice ka key.length kc) ∧ w'.cell? ⟨w.heap.size, 4, none⟩ = some (.slice (some ⟨bb, off, none⟩) P.length cap) ∧ w'.cell? ⟨bb, off + k * 4, none⟩ = some (.slice ad (nthP P k).l.length cp) ∧ w'.cell? ⟨bb, off + k * 4 + 1, none⟩ = some (.int .i64 (nthP P k).s) ∧ w'.cell? ⟨bb, off + k * 4 + 2, none⟩ = some (.int .i64 (nthP P k).e) ∧ w'.cell? ⟨bb, off + k * 4 + 3, none⟩ = some (.string (nthP P k).n) ∧ w'.cell? ⟨bb, off + m * 4, none⟩ = some (.slice ad2 (nthP P m).l.length cp2)) := fun w' h => ⟨(BP.out.grow h).cell 1, (BP.out.grow h).cell 4, (h.cell (p := ⟨bb, off + k * 4, none⟩) hbb).trans HA.out.c0, (h.cell (p := ⟨bb, off + k * 4 + 1, none⟩) hbb).trans HA.out.c1, (h.cell (p := ⟨bb, off + k * 4 + 2, none⟩) hbb).trans HA.out.c2, (h.cell (p := ⟨bb, off + k * 4 + 3, none⟩) hbb).trans HA.out.c3, (h.cell (p := ⟨bb, off + m * 4, none⟩) hbb).trans HA2.out.c0⟩
              go_upto_region 4 with fail
              refine wp_region_held_drew (S := fun w' => w'.cell? ⟨w.heap.size, 1, none⟩ = some (.slice ka key.length kc) ∧ w'.cell? ⟨w.heap.size, 4, none⟩ = some (.slice (some ⟨bb, off, none⟩) P.length cap) ∧ w'.cell? ⟨bb, off + k * 4, none⟩ = some (.slice ad (nthP P k).l.length cp) ∧ w'.cell? ⟨bb, off + k * 4 + 1, none⟩ = some (.int .i64 (nthP P k).s) ∧ w'.cell? ⟨bb, off + k * 4 + 2, none⟩ = some (.int .i64 (nthP P k).e) ∧ w'.cell? ⟨bb, off + k * 4 + 3, none⟩ = some (.string (nthP P k).n) ∧ w'.cell? ⟨bb, off + m * 4, none⟩ = some (.slice ad2 (nthP P m).l.length cp2)) (by kernel_rfl) (HS.out _ (Below.refl wr.heap.size wr).drew) (fun hHeld => ?_)
              refine tk 0 ⟨some 13, .fieldAddr 53 (.tmp 2) 4, 0, "l11_group.go:7", #[], none⟩ hHeld ?_
              try go_frame
              refine tk 1 ⟨some 14, .load 35 (.tmp 13), 35, "l11_group.go:7", #[⟨0, .data⟩], none⟩ hHeld ?_
              try go_frame
              refine tk 2 ⟨some 15, .move (.tmp 5), 3, "l11_group.go:7", #[], none⟩ hHeld ?_
              try go_frame
              refine tk 3 ⟨some 16, .indexAddr 35 (.tmp 14) (.tmp 15), 0, "l11_group.go:7", #[⟨1, .data⟩, ⟨2, .data⟩], none⟩ hHeld ?_
              try go_frame
              refine tk 4 ⟨some 17, .load 27 (.tmp 16), 27, "l11_group.go:7", #[⟨3, .data⟩], none⟩ hHeld ?_
              try go_frame
              refine rd1 5 ⟨some 18, .call { callee := .value (.func 81), args := #[.tmp 17], argTypes := #[27] }, 4, "l11_group.go:7", #[⟨4, .data⟩], none⟩ (fun K hK => ?_)
              go_simp
              refine (HOK.out _ (Below.refl wr.heap.size wr).drew).mono ?_
              rintro r wyg6x5 ⟨rfl, hb1⟩
              have Z1 : Hid (Below wr.heap.size wr wyg6x5) := grow_on (Below.refl wr.heap.size wr).drew hb1
              clear hb1
              try rw [hA]
              clear hHeld
              refine hK.out _ _ (HS.out _ Z1.out) (fun hHeld => ?_)
              clear hK K
              try go_frame
              refine tk 6 ⟨some 19, .unOp .not 4 (.tmp 18), 4, "l11_group.go:7", #[⟨5, .data⟩], none⟩ hHeld ?_
              try go_frame
              refine tk 7 ⟨some 20, .move (.tmp 19), 4, "l11_group.go:7", #[⟨6, .data⟩, ⟨5, .chain⟩], none⟩ hHeld ?_
              try go_frame
              refine tk 8 ⟨some 21, .move (.tmp 5), 3, "l11_group.go:7", #[⟨7, .guard⟩], some (7, false)⟩ hHeld ?_
              try go_frame
              refine tk 9 ⟨some 22, .binOp .gtr 3 (.tmp 21) (.const (.int .i64 0)) 3, 4, "l11_group.go:7", #[⟨8, .data⟩, ⟨7, .guard⟩], some (7, false)⟩ hHeld ?_
              try go_frame
              refine tk 10 ⟨some 23, .move (.tmp 22), 4, "l11_group.go:7", #[⟨9, .data⟩, ⟨7, .chain⟩, ⟨7, .guard⟩], some (7, false)⟩ hHeld ?_
              try go_frame
              refine tk 11 ⟨some 24, .fieldAddr 53 (.tmp 2) 4, 0, "l11_group.go:7", #[⟨10, .guard⟩], some (10, true)⟩ hHeld ?_
              try go_frame
              refine tk 12 ⟨some 25, .load 35 (.tmp 24), 35, "l11_group.go:7", #[⟨11, .data⟩, ⟨10, .guard⟩], some (10, true)⟩ hHeld ?_
              try go_frame
              refine tk 13 ⟨some 26, .move (.tmp 5), 3, "l11_group.go:7", #[⟨10, .guard⟩], some (10, true)⟩ hHeld ?_
              try go_frame
              refine tk 14 ⟨some 27, .binOp .sub 3 (.tmp 26) (.const (.int .i64 1)) 3, 3, "l11_group.go:7", #[⟨13, .data⟩, ⟨10, .guard⟩], some (10, true)⟩ hHeld ?_
              try go_frame
              refine tk 15 ⟨some 28, .indexAddr 35 (.tmp 25) (.tmp 27), 0, "l11_group.go:7", #[⟨12, .data⟩, ⟨14, .data⟩, ⟨10, .guard⟩], some (10, true)⟩ hHeld ?_
              try go_frame
              refine tk 16 ⟨some 29, .fieldAddr 27 (.tmp 28) 0, 0, "l11_group.go:7", #[⟨15, .data⟩, ⟨10, .guard⟩], some (10, true)⟩ hHeld ?_
              try go_frame
              refine tk 17 ⟨some 30, .load 25 (.tmp 29), 25, "l11_group.go:7", #[⟨16, .data⟩, ⟨10, .guard⟩], some (10, true)⟩ hHeld ?_
              try go_frame
              refine tk 18 ⟨some 31, .fieldAddr 53 (.tmp 2) 4, 0, "l11_group.go:7", #[⟨10, .guard⟩], some (10, true)⟩ hHeld ?_
              try go_frame
              refine tk 19 ⟨some 32, .load 35 (.tmp 31), 35, "l11_group.go:7", #[⟨18, .data⟩, ⟨10, .guard⟩], some (10, true)⟩ hHeld ?_
              try go_frame
              refine tk 20 ⟨some 33, .move (.tmp 5), 3, "l11_group.go:7", #[⟨10, .guard⟩], some (10, true)⟩ hHeld ?_
              try go_frame
              refine tk 21 ⟨some 34, .indexAddr 35 (.tmp 32) (.tmp 33), 0, "l11_group.go:7", #[⟨19, .data⟩, ⟨20, .data⟩, ⟨10, .guard⟩], some (10, true)⟩ hHeld ?_
              try go_frame
              refine tk 22 ⟨some 35, .fieldAddr 27 (.tmp 34) 0, 0, "l11_group.go:7", #[⟨21, .data⟩, ⟨10, .guard⟩], some (10, true)⟩ hHeld ?_
              try go_frame
              refine tk 23 ⟨some 36, .load 25 (.tmp 35), 25, "l11_group.go:7", #[⟨22, .data⟩, ⟨10, .guard⟩], some (10, true)⟩ hHeld ?_
              try go_frame
              refine rd1 24 ⟨some 37, .call { callee := .value (.func 66), args := #[.tmp 30, .tmp 36], argTypes := #[25, 25] }, 4, "l11_group.go:7", #[⟨17, .data⟩, ⟨23, .data⟩, ⟨10, .chain⟩, ⟨10, .guard⟩], some (10, true)⟩ (fun K hK => ?_)
              go_simp
              refine (HLE.out _ Z1.out).mono ?_
              rintro r wyg6x24 ⟨rfl, hb2⟩
              have Z2 : Hid (Below wr.heap.size wr wyg6x24) := grow_on Z1.out hb2
              clear hb2
              try rw [hLs]
              clear hHeld
              refine hK.out _ _ (HS.out _ Z2.out) (fun hHeld => ?_)
              clear hK K
              try go_frame
              refine tk 25 ⟨some 38, .unOp .not 4 (.tmp 37), 4, "l11_group.go:7", #[⟨24, .data⟩, ⟨10, .guard⟩], some (10, true)⟩ hHeld ?_
              try go_frame
              refine tk 26 ⟨some 39, .pick (.tmp 23) (.tmp 38) (.const (.bool false)), 4, "l11_group.go:7", #[⟨10, .data⟩, ⟨25, .data⟩, ⟨7, .guard⟩], some (7, false)⟩ hHeld ?_
              try go_frame
              refine tk 27 ⟨some 40, .pick (.tmp 20) (.const (.bool true)) (.tmp 39), 4, "l11_group.go:7", #[⟨7, .data⟩, ⟨26, .data⟩], none⟩ hHeld ?_
              try go_frame
              refine tk 28 ⟨some 41, .move (.tmp 40), 4, "l11_group.go:7", #[⟨27, .data⟩, ⟨24, .chain⟩], none⟩ hHeld ?_
              try go_frame
              refine tk 29 ⟨some 42, .fieldAddr 53 (.tmp 2) 4, 0, "l11_group.go:7", #[⟨28, .guard⟩], some (28, false)⟩ hHeld ?_
              try go_frame
              refine tk 30 ⟨some 43, .load 35 (.tmp 42), 35, "l11_group.go:7", #[⟨29, .data⟩, ⟨28, .guard⟩], some (28, false)⟩ hHeld ?_
              try go_frame
              refine tk 31 ⟨some 44, .move (.tmp 5), 3, "l11_group.go:7", #[⟨28, .guard⟩], some (28, false)⟩ hHeld ?_
              try go_frame
              refine tk 32 ⟨some 45, .indexAddr 35 (.tmp 43) (.tmp 44), 0, "l11_group.go:7", #[⟨30, .data⟩, ⟨31, .data⟩, ⟨28, .guard⟩], some (28, false)⟩ hHeld ?_
              try go_frame
              refine tk 33 ⟨some 46, .load 27 (.tmp 45), 27, "l11_group.go:7", #[⟨32, .data⟩, ⟨28, .guard⟩], some (28, false)⟩ hHeld ?_
              try go_frame
              refine tk 34 ⟨some 47, .move (.tmp 1), 28, "l11_group.go:7", #[⟨28, .guard⟩], some (28, false)⟩ hHeld ?_
              try go_frame
              refine tk 36 ⟨some 49, .fieldAddr 53 (.tmp 2) 1, 0, "l11_group.go:7", #[⟨28, .guard⟩], some (28, false)⟩ hHeld ?_
              try go_frame
              refine tk 37 ⟨some 50, .load 25 (.tmp 49), 25, "l11_group.go:7", #[⟨36, .data⟩, ⟨28, .guard⟩], some (28, false)⟩ hHeld ?_
              try go_frame
              refine rd1 35 ⟨some 48, .call { callee := .value (.func 35), args := #[.tmp 46, .tmp 47], argTypes := #[27, 28] }, 25, "l11_group.go:7", #[⟨33, .data⟩, ⟨34, .data⟩, ⟨28, .chain⟩, ⟨28, .guard⟩], some (28, false)⟩ (fun K hK => ?_)
              go_simp
              refine (HKE.out _ Z2.out).mono ?_
              rintro r wyg6x35 ⟨⟨MK, ck, rfl, hOK⟩, hb3⟩
              have Z3 : Hid (Below wr.heap.size wr wyg6x35) := grow_on Z2.out hb3
              have HO3 : Hid (Reads wyg6x35 (some ⟨MK, 0, none⟩) (projB (nthP P k).l by')) := own_reads hOK
              clear hb3 hOK
              clear hHeld
              refine hK.out _ _ (HS.out _ Z3.out) (fun hHeld => ?_)
              clear hK K
              try go_frame
              refine rd1 38 ⟨some 51, .call { callee := .value (.func 49), args := #[.tmp 48, .tmp 50], argTypes := #[25, 25] }, 4, "l11_group.go:7", #[⟨35, .data⟩, ⟨37, .data⟩, ⟨35, .chain⟩, ⟨28, .guard⟩], some (28, false)⟩ (fun K hK => ?_)
              go_simp
              refine (calls_drew (specSame_any _ _ _ _ (projB (nthP P k).l by') key _ HO3.out (HK.out.1.below (grow_on HBw.out Z3.out)) HPL.out HK.out.2.1)).mono ?_
              rintro r wyg6x38 ⟨rfl, hb4⟩
              have Z4 : Hid (Below wr.heap.size wr wyg6x38) := grow_on Z3.out hb4
              clear hb4
              try rw [hSm]
              clear hHeld
              refine hK.out _ _ (HS.out _ Z4.out) (fun hHeld => ?_)
              clear hK K
              try go_frame
              refine tk 39 ⟨some 52, .unOp .not 4 (.tmp 51), 4, "l11_group.go:7", #[⟨38, .data⟩, ⟨28, .guard⟩], some (28, false)⟩ hHeld ?_
              try go_frame
              refine tk 40 ⟨some 53, .pick (.tmp 41) (.const (.bool true)) (.tmp 52), 4, "l11_group.go:7", #[⟨28, .data⟩, ⟨39, .data⟩], none⟩ hHeld ?_
              try go_frame
              refine wpAnyH_done (by kernel_rfl) ?_ _
              clear hHeld
              go_wp2
              go_roundw
              case rel => exact ⟨k + 1, by go_num, by omega, HU1.out, grow_on HBr.out Z4.out⟩
              case measure => simp [intOf]; omega
    · have hge : ¬ (k : Int) < (P.length : Int) := by omega
      have HE : Hid (groupB n key b t P by' = (decide (0 ≤ n) && (setB key && (inB b 0 99999 && ((decide (t = -1) || inB t b 99999) && decide (0 < P.length)))))) := group_all fun j hj => HU.out j (by omega)
      have hp0 := BP.out.cell 0
      have hp1 := BP.out.cell 1
      have hp2 := BP.out.cell 2
      have hp3 := BP.out.cell 3
      simp at hp0 hp1 hp2 hp3
      by_cases hn : 0 ≤ n
      · replace HE : Hid (groupB n key b t P by' = (setB key && (inB b 0 99999 && ((decide (t = -1) || inB t b 99999) && decide (0 < P.length))))) := by unfold Hid; rw [HE.out, decide_eq_true hn, Bool.true_and]
        have hn' : n ≥ 0 := hn
        go_wp2_with fail
        refine (LabO.specSet_any ka kc key _ (HK.out.1.below HBw.out) HK.out.2.1 HK.out.2.2).mono ?_
        rintro e w1 ⟨rfl, hb1⟩
        have HB1 : Hid (Below w.heap.size w w1) := grow_on HBw.out hb1
        have BP1 : Hid (Blk w1 w.heap.size #[.int .i64 n, .slice ka key.length kc, .int .i64 b, .int .i64 t, .slice a P.length cap] 53) := BP.out.grow hb1
        clear hb1 hp0 hp1 hp2 hp3 hp4
        have hp0 := BP1.out.cell 0
        have hp1 := BP1.out.cell 1
        have hp2 := BP1.out.cell 2
        have hp3 := BP1.out.cell 3
        have hp4 := BP1.out.cell 4
        simp at hp0 hp1 hp2 hp3 hp4
        cases hS : setB key with
        | false =>
          replace HE : Hid (groupB n key b t P by' = false) := by unfold Hid; rw [HE.out, hS]; rfl
          go_wp2
          go_ret
          exact ⟨retB HE.out.symm, HB1.out⟩
        | true =>
          replace HE : Hid (groupB n key b t P by' = (inB b 0 99999 && ((decide (t = -1) || inB t b 99999) && decide (0 < P.length)))) := by unfold Hid; rw [HE.out, hS]; rfl
          go_wp2_with fail
          refine (l1In_any b 0 99999 w1).mono ?_
          rintro e w2 ⟨rfl, rfl⟩
          cases hI : inB b 0 99999 with
          | false =>
            replace HE : Hid (groupB n key b t P by' = false) := by unfold Hid; rw [HE.out, hI]; rfl
            go_wp2
            go_ret
            exact ⟨retB HE.out.symm, HB1.out⟩
          | true =>
            replace HE : Hid (groupB n key b t P by' = ((decide (t = -1) || inB t b 99999) && decide (0 < P.length))) := by unfold Hid; rw [HE.out, hI]; rfl
            by_cases ht : t = -1
            · replace HE : Hid (groupB n key b t P by' = decide (0 < P.length)) := by unfold Hid; rw [HE.out, decide_eq_true ht]; rfl
              have ht' : (t == -1) = true := by simpa using ht
              by_cases hpl : 0 < P.length
              · replace HE : Hid (groupB n key b t P by' = true) := by unfold Hid; rw [HE.out, decide_eq_true hpl]
                have hpl' : (0 : Int) < (P.length : Int) := by omega
                go_wp2
                go_ret
                exact ⟨retB HE.out.symm, HB1.out⟩
              · replace HE : Hid (groupB n key b t P by' = false) := by unfold Hid; rw [HE.out, decide_eq_false hpl]
                have hpl' : ¬ (0 : Int) < (P.length : Int) := by omega
                go_wp2
                go_ret
                exact ⟨retB HE.out.symm, HB1.out⟩
            · replace HE : Hid (groupB n key b t P by' = (inB t b 99999 && decide (0 < P.length))) := by unfold Hid; rw [HE.out, decide_eq_false ht]; rfl
              have ht' : (t == -1) = false := by simpa using ht
              go_wp2_with fail
              refine (l1In_any t b 99999 w2).mono ?_
              rintro e w3 ⟨rfl, rfl⟩
              cases hJ : inB t b 99999 with
              | false =>
                replace HE : Hid (groupB n key b t P by' = false) := by unfold Hid; rw [HE.out, hJ]; rfl
                go_wp2
                go_ret
                exact ⟨retB HE.out.symm, HB1.out⟩
              | true =>
                replace HE : Hid (groupB n key b t P by' = decide (0 < P.length)) := by unfold Hid; rw [HE.out, hJ]; rfl
                by_cases hpl : 0 < P.length
                · replace HE : Hid (groupB n key b t P by' = true) := by unfold Hid; rw [HE.out, decide_eq_true hpl]
                  have hpl' : (0 : Int) < (P.length : Int) := by omega
                  go_wp2
                  go_ret
                  exact ⟨retB HE.out.symm, HB1.out⟩
                · replace HE : Hid (groupB n key b t P by' = false) := by unfold Hid; rw [HE.out, decide_eq_false hpl]
                  have hpl' : ¬ (0 : Int) < (P.length : Int) := by omega
                  go_wp2
                  go_ret
                  exact ⟨retB HE.out.symm, HB1.out⟩
      · replace HE : Hid (groupB n key b t P by' = false) := by unfold Hid; rw [HE.out, decide_eq_false hn]; rfl
        have hn' : ¬ n ≥ 0 := hn
        go_wp2
        go_ret
        exact ⟨retB HE.out.symm, HBw.out⟩
end Go.Proofs.YtgncimlojbnbfaaGreat.GrpG
namespace Go.Proofs.YtgncimlojbnbfaaGreat.GrpI
open Go.RowKit
open Names (inB inB_true inB_false)
open Labs LabS Alms AlmS AlmM Over Blk App Rws ChnI ChnC ChnK Grp GrpG
open StrB (retB)
open LabL (slB implLessS_any)
open Pro (projB RdS own_reads)
open LabO (setB)
def timesB (b t : Int) : Bool := inB b 0 99999 && (decide (t = -1) || inB t b 99999)
def memB (key : List Lab) (P : List PAl) (by' : List ByteArray) : Bool := (List.range P.length).all (grAt key P by')
theorem group_eq (n : Int) (key : List Lab) (b t : Int) (P : List PAl) (by' : List ByteArray) : groupB n key b t P by' = (decide (0 ≤ n) && (setB key && (timesB b t && (decide (0 < P.length) && memB key P by')))) := by
  unfold groupB timesB memB
  cases (List.range P.length).all (grAt key P by') <;> cases decide (0 ≤ n) <;> cases setB key <;> cases inB b 0 99999 <;> cases (decide (t = -1) || inB t b 99999) <;> cases decide (0 < P.length) <;> rfl
theorem mem_bad {key : List Lab} {P : List PAl} {by' : List ByteArray} {k : Nat} (hk : k < P.length) (h : grAt key P by' k = false) : memB key P by' = false := by
  unfold memB
  rw [List.all_eq_false]
  exact ⟨k, List.mem_range.2 hk, by simp [h]⟩
theorem mem_good {key : List Lab} {P : List PAl} {by' : List ByteArray} (h : ∀ j, j < P.length → grAt key P by' j = true) : memB key P by' = true := by
  unfold memB
  rw [List.all_eq_true]
  exact fun j hj => h j (List.mem_range.1 hj)
theorem sendOk_any (n b t : Int) (v u : Value) (w : World) (hv : ∃ a k c, v = .slice a k c) (hu : ∃ a k c, u = .slice a k c) :
    Calls Tryz.prog 79 #[.agg #[.int .i64 n, v, .int .i64 b, .int .i64 t, u]] w fun e w' => e = .returned (.bool (timesB b t)) ∧ Below w.heap.size w w' := by
  obtain ⟨a1, k1, c1, rfl⟩ := hv
  obtain ⟨a2, k2, c2, rfl⟩ := hu
  by_cases h0 : b < 0
  · have HE : Hid (timesB b t = false) := by unfold Hid timesB; rw [inB_false (by omega)]; rfl
    go_enter Tryz.func79, Tryz.ntmps79
    go_wp2
    go_ret
    exact ⟨retB HE.out.symm, Go.Joins.below_alloc1 w _⟩
  by_cases h1 : 99999 < b
  · have HE : Hid (timesB b t = false) := by unfold Hid timesB; rw [inB_false (by omega)]; rfl
    go_enter Tryz.func79, Tryz.ntmps79
    go_wp2
    go_ret
    exact ⟨retB HE.out.symm, Go.Joins.below_alloc1 w _⟩
  by_cases h2 : t = -1
  · have HE : Hid (timesB b t = true) := by unfold Hid timesB; rw [inB_true (by omega) (by omega), decide_eq_true h2]; rfl
    subst h2
    go_enter Tryz.func79, Tryz.ntmps79
    go_wp2
    go_ret
    exact ⟨retB HE.out.symm, Go.Joins.below_alloc1 w _⟩
  have d2 : (t == -1) = false := by simpa using h2
  by_cases h3 : b ≤ t
  · by_cases h4 : t ≤ 99999
    · have HE : Hid (timesB b t = true) := by unfold Hid timesB; rw [inB_true (by omega) (by omega), inB_true h3 h4]; simp
      go_enter Tryz.func79, Tryz.ntmps79
      go_wp2
      go_ret
      exact ⟨retB HE.out.symm, Go.Joins.below_alloc1 w _⟩
    · have HE : Hid (timesB b t = false) := by unfold Hid timesB; rw [inB_false (x := t) (by omega), decide_eq_false h2]; simp
      go_enter Tryz.func79, Tryz.ntmps79
      go_wp2
      go_ret
      exact ⟨retB HE.out.symm, Go.Joins.below_alloc1 w _⟩
  · have HE : Hid (timesB b t = false) := by unfold Hid timesB; rw [inB_false (x := t) (by omega), decide_eq_false h2]; simp
    go_enter Tryz.func79, Tryz.ntmps79
    go_wp2
    go_ret
    exact ⟨retB HE.out.symm, Go.Joins.below_alloc1 w _⟩
set_option maxRecDepth 100000 in
set_option maxHeartbeats 6400000 in
theorem members_any (n b t : Int) (ka : Option Addr) (kc : Nat) (key : List Lab) (a : Option Addr) (cap : Nat) (P : List PAl) (ba : Option Addr) (bc : Nat) (by' : List ByteArray) (w : World) (hk : Reads w ka key) (hkl : key.length ≤ maxLen) (hr : RdA w a P) (hl : P.length ≤ 1048576) (hz : FitsP P) (hs : LenM P) (hb : RdS w ba by') (hbl : by'.length ≤ maxLen) :
    Calls Tryz.prog 80 #[.agg #[.int .i64 n, .slice ka key.length kc, .int .i64 b, .int .i64 t, .slice a P.length cap], .slice ba by'.length bc] w fun e w' => e = .returned (.bool (memB key P by')) ∧ Below w.heap.size w w' := by
  have HK : Hid (Reads w ka key ∧ key.length ≤ maxLen) := ⟨hk, hkl⟩
  have HR : Hid (RdA w a P ∧ FitsP P ∧ LenM P) := ⟨hr, hz, hs⟩
  have HY : Hid (RdS w ba by' ∧ by'.length ≤ maxLen) := ⟨hb, hbl⟩
  clear hk hkl hr hz hs hb hbl
  generalize hW0 : w.alloc (.cells #[.int .i64 n, .slice ka key.length kc, .int .i64 b, .int .i64 t, .slice a P.length cap] 53) = W0
  have HB0 : Hid (Below w.heap.size w W0) := by rw [← hW0]; exact Go.Joins.below_alloc1 w _
  have BP0 : Hid (Blk W0 w.heap.size #[.int .i64 n, .slice ka key.length kc, .int .i64 b, .int .i64 t, .slice a P.length cap] 53) := by rw [← hW0]; exact Blk.new _ _ _
  have p4 := BP0.out.cell 4
  simp at p4
  go_enter Tryz.func80, Tryz.ntmps80
  go_upto_region 1 with fail
  try rw [hW0]
  clear hW0
  go_upto_region 2 with fail
  clear p4
  go_loopw [10] (fun i w' => ∃ k : Nat, i = .int .i64 k ∧ k ≤ P.length ∧ (∀ j, j < k → grAt key P by' j = true) ∧ Below W0.heap.size W0 w') (fun i _ => P.length - (intOf i).toNat)
  case atStart => exact ⟨0, rfl, Nat.zero_le _, fun j hj => by omega, Below.refl _ _⟩
  case round =>
    obtain ⟨k, rfl, hk, hu, hw0⟩ := hrel
    have HU : Hid (∀ j, j < k → grAt key P by' j = true) := hu
    have BP : Hid (Blk wr w.heap.size #[.int .i64 n, .slice ka key.length kc, .int .i64 b, .int .i64 t, .slice a P.length cap] 53) := BP0.out.grow hw0
    have HBr : Hid (Below W0.heap.size W0 wr) := hw0
    have HBw : Hid (Below w.heap.size w wr) := grow_on HB0.out hw0
    clear hu hw0
    by_cases hlt : k < P.length
    · have hlt' : (k : Int) < (P.length : Int) := by omega
      obtain ⟨bb, off, rfl, hbb, ad, cp, hat⟩ := (HR.out.1.below HBw.out).get hlt
      have HA : Hid (At wr bb off k (nthP P k) ad cp) := hat
      have x0 := hat.c0
      have x1 := hat.c1
      have x2 := hat.c2
      have x3 := hat.c3
      generalize hw5 : wr.alloc (.cells #[.slice ad (nthP P k).l.length cp, .int .i64 (nthP P k).s, .int .i64 (nthP P k).e, .string (nthP P k).n] 27) = W5
      have HB5 : Hid (Below wr.heap.size wr W5) := by rw [← hw5]; exact Go.Joins.below_alloc1 wr _
      have BX : Hid (Blk W5 wr.heap.size #[.slice ad (nthP P k).l.length cp, .int .i64 (nthP P k).s, .int .i64 (nthP P k).e, .string (nthP P k).n] 27) := by rw [← hw5]; exact Blk.new _ _ _
      have HOK : Hid (∀ y, Below W5.heap.size W5 y → Calls Tryz.prog 105 #[.agg #[.slice ad (nthP P k).l.length cp, .int .i64 (nthP P k).s, .int .i64 (nthP P k).e, .string (nthP P k).n]] y fun e w' => e = .returned (.bool (okX (nthP P k))) ∧ Below y.heap.size y w') := fun y hy => implAlarm_any _ _ _ _ _ _ y ((HR.out.2.1 k hlt).al (hat.reads.below (grow_on HB5.out hy)))
      have HKE : Hid (∀ y, Below W5.heap.size W5 y → Calls Tryz.prog 25 #[.agg #[.slice ad (nthP P k).l.length cp, .int .i64 (nthP P k).s, .int .i64 (nthP P k).e, .string (nthP P k).n], .slice ba by'.length bc] y fun e w' => (∃ M c, e = .returned (.slice (some ⟨M, 0, none⟩) (projB (nthP P k).l by').length c) ∧ LabR.Own y w' M (projB (nthP P k).l by')) ∧ Below y.heap.size y w') := fun y hy => Pro.implKey_any _ _ _ _ _ _ _ _ _ y (hat.reads.below (grow_on HB5.out hy)) (HY.out.1.below (grow_on HBw.out (grow_on HB5.out hy))) (HR.out.2.2 k hlt) HY.out.2
      have HPL : Hid ((projB (nthP P k).l by').length ≤ maxLen) := by have h1 := Pro.proj_len (nthP P k).l by'; have h2 := HR.out.2.2 k hlt; unfold maxLen; show _ ≤ _; omega
      have HBX : Hid (Below w.heap.size w W5) := grow_on HBw.out HB5.out
      have BG : Hid (Blk W5 w.heap.size #[.int .i64 n, .slice ka key.length kc, .int .i64 b, .int .i64 t, .slice (some ⟨bb, off, none⟩) P.length cap] 53) := BP.out.grow HB5.out
      clear hat
      have hp4 : wr.cell? ⟨w.heap.size, 4, none⟩ = some (.slice (some ⟨bb, off, none⟩) P.length cap) := BP.out.cell 4
      go_upto_region 4 with fail
      try rw [hw5]
      clear hw5 x0 x1 x2 x3 hp4
      cases hA : okX (nthP P k) with
      | false =>
        have HE : Hid (memB key P by' = false) := mem_bad hlt (by unfold grAt; rw [hA]; rfl)
        have HS : Hid (∀ w', Below W5.heap.size W5 w' → w'.cell? ⟨wr.heap.size, 0, none⟩ = some (.slice ad (nthP P k).l.length cp) ∧ w'.cell? ⟨wr.heap.size, 1, none⟩ = some (.int .i64 (nthP P k).s) ∧ w'.cell? ⟨wr.heap.size, 2, none⟩ = some (.int .i64 (nthP P k).e) ∧ w'.cell? ⟨wr.heap.size, 3, none⟩ = some (.string (nthP P k).n) ∧ w'.cell? ⟨w.heap.size, 1, none⟩ = some (.slice ka key.length kc) ∧ w'.cell? ⟨w.heap.size, 4, none⟩ = some (.slice (some ⟨bb, off, none⟩) P.length cap)) := fun w' h => ⟨(BX.out.grow h).cell 0, (BX.out.grow h).cell 1, (BX.out.grow h).cell 2, (BX.out.grow h).cell 3, (BG.out.grow h).cell 1, (BG.out.grow h).cell 4⟩
        refine wp_region_held_drew (S := fun w' => w'.cell? ⟨wr.heap.size, 0, none⟩ = some (.slice ad (nthP P k).l.length cp) ∧ w'.cell? ⟨wr.heap.size, 1, none⟩ = some (.int .i64 (nthP P k).s) ∧ w'.cell? ⟨wr.heap.size, 2, none⟩ = some (.int .i64 (nthP P k).e) ∧ w'.cell? ⟨wr.heap.size, 3, none⟩ = some (.string (nthP P k).n) ∧ w'.cell? ⟨w.heap.size, 1, none⟩ = some (.slice ka key.length kc) ∧ w'.cell? ⟨w.heap.size, 4, none⟩ = some (.slice (some ⟨bb, off, none⟩) P.length cap)) (by kernel_rfl) (HS.out _ (Below.refl W5.heap.size W5).drew) (fun hHeld => ?_)
        refine tk 0 ⟨some 15, .load 27 (.tmp 6), 27, "l11_group.go:35", #[], none⟩ hHeld ?_
        try go_frame
        refine rd1 1 ⟨some 16, .call { callee := .value (.func 105), args := #[.tmp 15], argTypes := #[27] }, 4, "l11_group.go:35", #[⟨0, .data⟩], none⟩ (fun K hK => ?_)
        go_simp
        refine (HOK.out _ (Below.refl W5.heap.size W5).drew).mono ?_
        rintro r wym1x1 ⟨rfl, hb1⟩
        have Z1 : Hid (Below W5.heap.size W5 wym1x1) := grow_on (Below.refl W5.heap.size W5).drew hb1
        clear hb1
        try rw [hA]
        clear hHeld
        refine hK.out _ _ (HS.out _ Z1.out) (fun hHeld => ?_)
        clear hK K
        try go_frame
        refine tk 2 ⟨some 17, .unOp .not 4 (.tmp 16), 4, "l11_group.go:35", #[⟨1, .data⟩], none⟩ hHeld ?_
        try go_frame
        refine tk 3 ⟨some 18, .move (.tmp 17), 4, "l11_group.go:35", #[⟨2, .data⟩, ⟨1, .chain⟩], none⟩ hHeld ?_
        try go_frame
        refine sk 4 ⟨some 19, .load 27 (.tmp 6), 27, "l11_group.go:35", #[⟨3, .guard⟩], some (3, false)⟩ hHeld ?_
        try go_frame
        refine sk 5 ⟨some 20, .move (.tmp 1), 28, "l11_group.go:35", #[⟨3, .guard⟩], some (3, false)⟩ hHeld ?_
        try go_frame
        refine sk 6 ⟨some 21, .call { callee := .value (.func 25), args := #[.tmp 19, .tmp 20], argTypes := #[27, 28] }, 25, "l11_group.go:35", #[⟨4, .data⟩, ⟨5, .data⟩, ⟨3, .chain⟩, ⟨3, .guard⟩], some (3, false)⟩ hHeld ?_
        try go_frame
        refine sk 7 ⟨some 22, .fieldAddr 53 (.tmp 2) 1, 0, "l11_group.go:35", #[⟨3, .guard⟩], some (3, false)⟩ hHeld ?_
        try go_frame
        refine sk 8 ⟨some 23, .load 25 (.tmp 22), 25, "l11_group.go:35", #[⟨7, .data⟩, ⟨3, .guard⟩], some (3, false)⟩ hHeld ?_
        try go_frame
        refine sk 9 ⟨some 24, .call { callee := .value (.func 44), args := #[.tmp 21, .tmp 23], argTypes := #[25, 25] }, 4, "l11_group.go:35", #[⟨6, .data⟩, ⟨8, .data⟩, ⟨6, .chain⟩, ⟨3, .guard⟩], some (3, false)⟩ hHeld ?_
        try go_frame
        refine sk 10 ⟨some 25, .unOp .not 4 (.tmp 24), 4, "l11_group.go:35", #[⟨9, .data⟩, ⟨3, .guard⟩], some (3, false)⟩ hHeld ?_
        try go_frame
        refine tk 11 ⟨some 26, .pick (.tmp 18) (.const (.bool true)) (.tmp 25), 4, "l11_group.go:35", #[⟨3, .data⟩, ⟨10, .data⟩], none⟩ hHeld ?_
        try go_frame
        refine wpAnyH_done (by kernel_rfl) ?_ _
        clear hHeld HS
        go_wp2
        go_ret
        exact ⟨retB HE.out.symm, grow_on HBX.out Z1.out⟩
      | true =>
        cases hSm : decide (projB (nthP P k).l by' = key) with
        | false =>
          have HE : Hid (memB key P by' = false) := mem_bad hlt (by unfold grAt; rw [hA, hSm]; simp)
          have HS : Hid (∀ w', Below W5.heap.size W5 w' → w'.cell? ⟨wr.heap.size, 0, none⟩ = some (.slice ad (nthP P k).l.length cp) ∧ w'.cell? ⟨wr.heap.size, 1, none⟩ = some (.int .i64 (nthP P k).s) ∧ w'.cell? ⟨wr.heap.size, 2, none⟩ = some (.int .i64 (nthP P k).e) ∧ w'.cell? ⟨wr.heap.size, 3, none⟩ = some (.string (nthP P k).n) ∧ w'.cell? ⟨w.heap.size, 1, none⟩ = some (.slice ka key.length kc) ∧ w'.cell? ⟨w.heap.size, 4, none⟩ = some (.slice (some ⟨bb, off, none⟩) P.length cap)) := fun w' h => ⟨(BX.out.grow h).cell 0, (BX.out.grow h).cell 1, (BX.out.grow h).cell 2, (BX.out.grow h).cell 3, (BG.out.grow h).cell 1, (BG.out.grow h).cell 4⟩
          refine wp_region_held_drew (S := fun w' => w'.cell? ⟨wr.heap.size, 0, none⟩ = some (.slice ad (nthP P k).l.length cp) ∧ w'.cell? ⟨wr.heap.size, 1, none⟩ = some (.int .i64 (nthP P k).s) ∧ w'.cell? ⟨wr.heap.size, 2, none⟩ = some (.int .i64 (nthP P k).e) ∧ w'.cell? ⟨wr.heap.size, 3, none⟩ = some (.string (nthP P k).n) ∧ w'.cell? ⟨w.heap.size, 1, none⟩ = some (.slice ka key.length kc) ∧ w'.cell? ⟨w.heap.size, 4, none⟩ = some (.slice (some ⟨bb, off, none⟩) P.length cap)) (by kernel_rfl) (HS.out _ (Below.refl W5.heap.size W5).drew) (fun hHeld => ?_)
          refine tk 0 ⟨some 15, .load 27 (.tmp 6), 27, "l11_group.go:35", #[], none⟩ hHeld ?_
          try go_frame
          refine rd1 1 ⟨some 16, .call { callee := .value (.func 105), args := #[.tmp 15], argTypes := #[27] }, 4, "l11_group.go:35", #[⟨0, .data⟩], none⟩ (fun K hK => ?_)
          go_simp
          refine (HOK.out _ (Below.refl W5.heap.size W5).drew).mono ?_
          rintro r wym2x1 ⟨rfl, hb1⟩
          have Z1 : Hid (Below W5.heap.size W5 wym2x1) := grow_on (Below.refl W5.heap.size W5).drew hb1
          clear hb1
          try rw [hA]
          clear hHeld
          refine hK.out _ _ (HS.out _ Z1.out) (fun hHeld => ?_)
          clear hK K
          try go_frame
          refine tk 2 ⟨some 17, .unOp .not 4 (.tmp 16), 4, "l11_group.go:35", #[⟨1, .data⟩], none⟩ hHeld ?_
          try go_frame
          refine tk 3 ⟨some 18, .move (.tmp 17), 4, "l11_group.go:35", #[⟨2, .data⟩, ⟨1, .chain⟩], none⟩ hHeld ?_
          try go_frame
          refine tk 4 ⟨some 19, .load 27 (.tmp 6), 27, "l11_group.go:35", #[⟨3, .guard⟩], some (3, false)⟩ hHeld ?_
          try go_frame
          refine tk 5 ⟨some 20, .move (.tmp 1), 28, "l11_group.go:35", #[⟨3, .guard⟩], some (3, false)⟩ hHeld ?_
          try go_frame
          refine tk 7 ⟨some 22, .fieldAddr 53 (.tmp 2) 1, 0, "l11_group.go:35", #[⟨3, .guard⟩], some (3, false)⟩ hHeld ?_
          try go_frame
          refine tk 8 ⟨some 23, .load 25 (.tmp 22), 25, "l11_group.go:35", #[⟨7, .data⟩, ⟨3, .guard⟩], some (3, false)⟩ hHeld ?_
          try go_frame
          refine rd1 6 ⟨some 21, .call { callee := .value (.func 25), args := #[.tmp 19, .tmp 20], argTypes := #[27, 28] }, 25, "l11_group.go:35", #[⟨4, .data⟩, ⟨5, .data⟩, ⟨3, .chain⟩, ⟨3, .guard⟩], some (3, false)⟩ (fun K hK => ?_)
          go_simp
          refine (HKE.out _ Z1.out).mono ?_
          rintro r wym2x6 ⟨⟨MK, ck, rfl, hOK⟩, hb3⟩
          have Z3 : Hid (Below W5.heap.size W5 wym2x6) := grow_on Z1.out hb3
          have HO3 : Hid (Reads wym2x6 (some ⟨MK, 0, none⟩) (projB (nthP P k).l by')) := own_reads hOK
          clear hb3 hOK
          clear hHeld
          refine hK.out _ _ (HS.out _ Z3.out) (fun hHeld => ?_)
          clear hK K
          try go_frame
          refine rd1 9 ⟨some 24, .call { callee := .value (.func 44), args := #[.tmp 21, .tmp 23], argTypes := #[25, 25] }, 4, "l11_group.go:35", #[⟨6, .data⟩, ⟨8, .data⟩, ⟨6, .chain⟩, ⟨3, .guard⟩], some (3, false)⟩ (fun K hK => ?_)
          go_simp
          refine (calls_drew (implSame_any _ _ _ _ (projB (nthP P k).l by') key _ HO3.out (HK.out.1.below (grow_on HBX.out Z3.out)) HPL.out HK.out.2)).mono ?_
          rintro r wym2x9 ⟨rfl, hb4⟩
          have Z4 : Hid (Below W5.heap.size W5 wym2x9) := grow_on Z3.out hb4
          clear hb4
          try rw [hSm]
          clear hHeld
          refine hK.out _ _ (HS.out _ Z4.out) (fun hHeld => ?_)
          clear hK K
          try go_frame
          refine tk 10 ⟨some 25, .unOp .not 4 (.tmp 24), 4, "l11_group.go:35", #[⟨9, .data⟩, ⟨3, .guard⟩], some (3, false)⟩ hHeld ?_
          try go_frame
          refine tk 11 ⟨some 26, .pick (.tmp 18) (.const (.bool true)) (.tmp 25), 4, "l11_group.go:35", #[⟨3, .data⟩, ⟨10, .data⟩], none⟩ hHeld ?_
          try go_frame
          refine wpAnyH_done (by kernel_rfl) ?_ _
          clear hHeld HS
          go_wp2
          go_ret
          exact ⟨retB HE.out.symm, grow_on HBX.out Z4.out⟩
        | true =>
          by_cases hk0 : k = 0
          ·
            have HG : Hid (grAt key P by' k = true) := by unfold Hid grAt; rw [hA, hSm, decide_eq_true hk0]; rfl
            have HU1 : Hid (∀ j, j < k + 1 → grAt key P by' j = true) := fun j hj => by
              by_cases e : j = k
              · rw [e]; exact HG.out
              · exact HU.out j (by omega)
            have hk0' : ¬ (0 : Int) < (k : Int) := by omega
            have bk : decide (0 < k) = false := decide_eq_false (by omega)
            clear hk0
            have HS : Hid (∀ w', Below W5.heap.size W5 w' → w'.cell? ⟨wr.heap.size, 0, none⟩ = some (.slice ad (nthP P k).l.length cp) ∧ w'.cell? ⟨wr.heap.size, 1, none⟩ = some (.int .i64 (nthP P k).s) ∧ w'.cell? ⟨wr.heap.size, 2, none⟩ = some (.int .i64 (nthP P k).e) ∧ w'.cell? ⟨wr.heap.size, 3, none⟩ = some (.string (nthP P k).n) ∧ w'.cell? ⟨w.heap.size, 1, none⟩ = some (.slice ka key.length kc) ∧ w'.cell? ⟨w.heap.size, 4, none⟩ = some (.slice (some ⟨bb, off, none⟩) P.length cap)) := fun w' h => ⟨(BX.out.grow h).cell 0, (BX.out.grow h).cell 1, (BX.out.grow h).cell 2, (BX.out.grow h).cell 3, (BG.out.grow h).cell 1, (BG.out.grow h).cell 4⟩
            refine wp_region_held_drew (S := fun w' => w'.cell? ⟨wr.heap.size, 0, none⟩ = some (.slice ad (nthP P k).l.length cp) ∧ w'.cell? ⟨wr.heap.size, 1, none⟩ = some (.int .i64 (nthP P k).s) ∧ w'.cell? ⟨wr.heap.size, 2, none⟩ = some (.int .i64 (nthP P k).e) ∧ w'.cell? ⟨wr.heap.size, 3, none⟩ = some (.string (nthP P k).n) ∧ w'.cell? ⟨w.heap.size, 1, none⟩ = some (.slice ka key.length kc) ∧ w'.cell? ⟨w.heap.size, 4, none⟩ = some (.slice (some ⟨bb, off, none⟩) P.length cap)) (by kernel_rfl) (HS.out _ (Below.refl W5.heap.size W5).drew) (fun hHeld => ?_)
            refine tk 0 ⟨some 15, .load 27 (.tmp 6), 27, "l11_group.go:35", #[], none⟩ hHeld ?_
            try go_frame
            refine rd1 1 ⟨some 16, .call { callee := .value (.func 105), args := #[.tmp 15], argTypes := #[27] }, 4, "l11_group.go:35", #[⟨0, .data⟩], none⟩ (fun K hK => ?_)
            go_simp
            refine (HOK.out _ (Below.refl W5.heap.size W5).drew).mono ?_
            rintro r wym3x1 ⟨rfl, hb1⟩
            have Z1 : Hid (Below W5.heap.size W5 wym3x1) := grow_on (Below.refl W5.heap.size W5).drew hb1
            clear hb1
            try rw [hA]
            clear hHeld
            refine hK.out _ _ (HS.out _ Z1.out) (fun hHeld => ?_)
            clear hK K
            try go_frame
            refine tk 2 ⟨some 17, .unOp .not 4 (.tmp 16), 4, "l11_group.go:35", #[⟨1, .data⟩], none⟩ hHeld ?_
            try go_frame
            refine tk 3 ⟨some 18, .move (.tmp 17), 4, "l11_group.go:35", #[⟨2, .data⟩, ⟨1, .chain⟩], none⟩ hHeld ?_
            try go_frame
            refine tk 4 ⟨some 19, .load 27 (.tmp 6), 27, "l11_group.go:35", #[⟨3, .guard⟩], some (3, false)⟩ hHeld ?_
            try go_frame
            refine tk 5 ⟨some 20, .move (.tmp 1), 28, "l11_group.go:35", #[⟨3, .guard⟩], some (3, false)⟩ hHeld ?_
            try go_frame
            refine tk 7 ⟨some 22, .fieldAddr 53 (.tmp 2) 1, 0, "l11_group.go:35", #[⟨3, .guard⟩], some (3, false)⟩ hHeld ?_
            try go_frame
            refine tk 8 ⟨some 23, .load 25 (.tmp 22), 25, "l11_group.go:35", #[⟨7, .data⟩, ⟨3, .guard⟩], some (3, false)⟩ hHeld ?_
            try go_frame
            refine rd1 6 ⟨some 21, .call { callee := .value (.func 25), args := #[.tmp 19, .tmp 20], argTypes := #[27, 28] }, 25, "l11_group.go:35", #[⟨4, .data⟩, ⟨5, .data⟩, ⟨3, .chain⟩, ⟨3, .guard⟩], some (3, false)⟩ (fun K hK => ?_)
            go_simp
            refine (HKE.out _ Z1.out).mono ?_
            rintro r wym3x6 ⟨⟨MK, ck, rfl, hOK⟩, hb3⟩
            have Z3 : Hid (Below W5.heap.size W5 wym3x6) := grow_on Z1.out hb3
            have HO3 : Hid (Reads wym3x6 (some ⟨MK, 0, none⟩) (projB (nthP P k).l by')) := own_reads hOK
            clear hb3 hOK
            clear hHeld
            refine hK.out _ _ (HS.out _ Z3.out) (fun hHeld => ?_)
            clear hK K
            try go_frame
            refine rd1 9 ⟨some 24, .call { callee := .value (.func 44), args := #[.tmp 21, .tmp 23], argTypes := #[25, 25] }, 4, "l11_group.go:35", #[⟨6, .data⟩, ⟨8, .data⟩, ⟨6, .chain⟩, ⟨3, .guard⟩], some (3, false)⟩ (fun K hK => ?_)
            go_simp
            refine (calls_drew (implSame_any _ _ _ _ (projB (nthP P k).l by') key _ HO3.out (HK.out.1.below (grow_on HBX.out Z3.out)) HPL.out HK.out.2)).mono ?_
            rintro r wym3x9 ⟨rfl, hb4⟩
            have Z4 : Hid (Below W5.heap.size W5 wym3x9) := grow_on Z3.out hb4
            clear hb4
            try rw [hSm]
            clear hHeld
            refine hK.out _ _ (HS.out _ Z4.out) (fun hHeld => ?_)
            clear hK K
            try go_frame
            refine tk 10 ⟨some 25, .unOp .not 4 (.tmp 24), 4, "l11_group.go:35", #[⟨9, .data⟩, ⟨3, .guard⟩], some (3, false)⟩ hHeld ?_
            try go_frame
            refine tk 11 ⟨some 26, .pick (.tmp 18) (.const (.bool true)) (.tmp 25), 4, "l11_group.go:35", #[⟨3, .data⟩, ⟨10, .data⟩], none⟩ hHeld ?_
            try go_frame
            refine wpAnyH_done (by kernel_rfl) ?_ _
            clear hHeld HS
            go_upto_region 6 with fail
            have HS : Hid (∀ w', Below W5.heap.size W5 w' → w'.cell? ⟨wr.heap.size, 0, none⟩ = some (.slice ad (nthP P k).l.length cp) ∧ w'.cell? ⟨wr.heap.size, 1, none⟩ = some (.int .i64 (nthP P k).s) ∧ w'.cell? ⟨wr.heap.size, 2, none⟩ = some (.int .i64 (nthP P k).e) ∧ w'.cell? ⟨wr.heap.size, 3, none⟩ = some (.string (nthP P k).n) ∧ w'.cell? ⟨w.heap.size, 1, none⟩ = some (.slice ka key.length kc) ∧ w'.cell? ⟨w.heap.size, 4, none⟩ = some (.slice (some ⟨bb, off, none⟩) P.length cap)) := fun w' h => ⟨(BX.out.grow h).cell 0, (BX.out.grow h).cell 1, (BX.out.grow h).cell 2, (BX.out.grow h).cell 3, (BG.out.grow h).cell 1, (BG.out.grow h).cell 4⟩
            refine wp_region_held_drew (S := fun w' => w'.cell? ⟨wr.heap.size, 0, none⟩ = some (.slice ad (nthP P k).l.length cp) ∧ w'.cell? ⟨wr.heap.size, 1, none⟩ = some (.int .i64 (nthP P k).s) ∧ w'.cell? ⟨wr.heap.size, 2, none⟩ = some (.int .i64 (nthP P k).e) ∧ w'.cell? ⟨wr.heap.size, 3, none⟩ = some (.string (nthP P k).n) ∧ w'.cell? ⟨w.heap.size, 1, none⟩ = some (.slice ka key.length kc) ∧ w'.cell? ⟨w.heap.size, 4, none⟩ = some (.slice (some ⟨bb, off, none⟩) P.length cap)) (by kernel_rfl) (HS.out _ (grow_on Z4.out (Below.refl _ _).drew)) (fun hHeld => ?_)
            refine tk 0 ⟨some 27, .move (.tmp 5), 3, "l11_group.go:39", #[], none⟩ hHeld ?_
            try go_frame
            refine tk 1 ⟨some 28, .binOp .gtr 3 (.tmp 27) (.const (.int .i64 0)) 3, 4, "l11_group.go:39", #[⟨0, .data⟩], none⟩ hHeld ?_
            try go_frame
            refine tk 2 ⟨some 29, .move (.tmp 28), 4, "l11_group.go:39", #[⟨1, .data⟩], none⟩ hHeld ?_
            try go_frame
            refine sk 3 ⟨some 30, .fieldAddr 53 (.tmp 2) 4, 0, "l11_group.go:39", #[⟨2, .guard⟩], some (2, true)⟩ hHeld ?_
            try go_frame
            refine sk 4 ⟨some 31, .load 35 (.tmp 30), 35, "l11_group.go:39", #[⟨3, .data⟩, ⟨2, .guard⟩], some (2, true)⟩ hHeld ?_
            try go_frame
            refine sk 5 ⟨some 32, .move (.tmp 5), 3, "l11_group.go:39", #[⟨2, .guard⟩], some (2, true)⟩ hHeld ?_
            try go_frame
            refine sk 6 ⟨some 33, .binOp .sub 3 (.tmp 32) (.const (.int .i64 1)) 3, 3, "l11_group.go:39", #[⟨5, .data⟩, ⟨2, .guard⟩], some (2, true)⟩ hHeld ?_
            try go_frame
            refine sk 7 ⟨some 34, .indexAddr 35 (.tmp 31) (.tmp 33), 0, "l11_group.go:39", #[⟨4, .data⟩, ⟨6, .data⟩, ⟨2, .guard⟩], some (2, true)⟩ hHeld ?_
            try go_frame
            refine sk 8 ⟨some 35, .fieldAddr 27 (.tmp 34) 0, 0, "l11_group.go:39", #[⟨7, .data⟩, ⟨2, .guard⟩], some (2, true)⟩ hHeld ?_
            try go_frame
            refine sk 9 ⟨some 36, .load 25 (.tmp 35), 25, "l11_group.go:39", #[⟨8, .data⟩, ⟨2, .guard⟩], some (2, true)⟩ hHeld ?_
            try go_frame
            refine sk 10 ⟨some 37, .fieldAddr 27 (.tmp 6) 0, 0, "l11_group.go:39", #[⟨2, .guard⟩], some (2, true)⟩ hHeld ?_
            try go_frame
            refine sk 11 ⟨some 38, .load 25 (.tmp 37), 25, "l11_group.go:39", #[⟨10, .data⟩, ⟨2, .guard⟩], some (2, true)⟩ hHeld ?_
            try go_frame
            refine sk 12 ⟨some 39, .call { callee := .value (.func 96), args := #[.tmp 36, .tmp 38], argTypes := #[25, 25] }, 4, "l11_group.go:39", #[⟨9, .data⟩, ⟨11, .data⟩, ⟨2, .chain⟩, ⟨2, .guard⟩], some (2, true)⟩ hHeld ?_
            try go_frame
            refine sk 13 ⟨some 40, .unOp .not 4 (.tmp 39), 4, "l11_group.go:39", #[⟨12, .data⟩, ⟨2, .guard⟩], some (2, true)⟩ hHeld ?_
            try go_frame
            refine tk 14 ⟨some 41, .pick (.tmp 29) (.tmp 40) (.const (.bool false)), 4, "l11_group.go:39", #[⟨2, .data⟩, ⟨13, .data⟩], none⟩ hHeld ?_
            try go_frame
            refine wpAnyH_done (by kernel_rfl) ?_ _
            clear hHeld HS
            have Z9 : Hid (Below W5.heap.size W5 _) := grow_on Z4.out (Below.refl _ _).drew
            go_wp2
            go_roundw
            case rel => exact ⟨k + 1, by go_num, by omega, HU1.out, grow_on HBr.out (grow_on HB5.out Z9.out)⟩
            case measure => simp [intOf]; omega
          · have hk0' : (0 : Int) < (k : Int) := by omega
            have bk : decide (0 < k) = true := decide_eq_true (by omega)
            obtain ⟨m, hm⟩ : ∃ m, k = m + 1 := ⟨k - 1, by omega⟩
            have em : (k : Int) - 1 = (m : Int) := by omega
            have hml : m < P.length := by omega
            have hml' : (m : Int) < (P.length : Int) := by omega
            have hwm : IntKind.i64.wrap (m : Int) = (m : Int) := by rw [IntKind.wrap_i64]; omega
            have hmk : k - 1 = m := by omega
            obtain ⟨bb2, off2, e2, _, ad2, cp2, hat2⟩ := (HR.out.1.below HBw.out).get hml
            cases e2
            have HA2 : Hid (At wr bb off m (nthP P m) ad2 cp2) := hat2
            have HLE : Hid (∀ y, Below W5.heap.size W5 y → Calls Tryz.prog 96 #[.slice ad2 (nthP P m).l.length cp2, .slice ad (nthP P k).l.length cp] y fun e w' => e = .returned (.bool (slB (nthP P m).l (nthP P k).l)) ∧ Below y.heap.size y w') := fun y hy => implLessS_any _ _ _ _ _ _ y (hat2.reads.below (grow_on HB5.out hy)) (HA.out.reads.below (grow_on HB5.out hy)) (by have := HR.out.2.2 m hml; unfold maxLen; omega) (by have := HR.out.2.2 k hlt; unfold maxLen; omega)
            clear hat2 hm
            cases hLs : slB (nthP P m).l (nthP P k).l with
            | false =>
              have HE : Hid (memB key P by' = false) := mem_bad hlt (by unfold grAt; rw [hA, hmk, hLs, decide_eq_false hk0]; rfl)
              clear hmk hk0
              have HS : Hid (∀ w', Below W5.heap.size W5 w' → w'.cell? ⟨wr.heap.size, 0, none⟩ = some (.slice ad (nthP P k).l.length cp) ∧ w'.cell? ⟨wr.heap.size, 1, none⟩ = some (.int .i64 (nthP P k).s) ∧ w'.cell? ⟨wr.heap.size, 2, none⟩ = some (.int .i64 (nthP P k).e) ∧ w'.cell? ⟨wr.heap.size, 3, none⟩ = some (.string (nthP P k).n) ∧ w'.cell? ⟨w.heap.size, 1, none⟩ = some (.slice ka key.length kc) ∧ w'.cell? ⟨w.heap.size, 4, none⟩ = some (.slice (some ⟨bb, off, none⟩) P.length cap)) := fun w' h => ⟨(BX.out.grow h).cell 0, (BX.out.grow h).cell 1, (BX.out.grow h).cell 2, (BX.out.grow h).cell 3, (BG.out.grow h).cell 1, (BG.out.grow h).cell 4⟩
              refine wp_region_held_drew (S := fun w' => w'.cell? ⟨wr.heap.size, 0, none⟩ = some (.slice ad (nthP P k).l.length cp) ∧ w'.cell? ⟨wr.heap.size, 1, none⟩ = some (.int .i64 (nthP P k).s) ∧ w'.cell? ⟨wr.heap.size, 2, none⟩ = some (.int .i64 (nthP P k).e) ∧ w'.cell? ⟨wr.heap.size, 3, none⟩ = some (.string (nthP P k).n) ∧ w'.cell? ⟨w.heap.size, 1, none⟩ = some (.slice ka key.length kc) ∧ w'.cell? ⟨w.heap.size, 4, none⟩ = some (.slice (some ⟨bb, off, none⟩) P.length cap)) (by kernel_rfl) (HS.out _ (Below.refl W5.heap.size W5).drew) (fun hHeld => ?_)
              refine tk 0 ⟨some 15, .load 27 (.tmp 6), 27, "l11_group.go:35", #[], none⟩ hHeld ?_
              try go_frame
              refine rd1 1 ⟨some 16, .call { callee := .value (.func 105), args := #[.tmp 15], argTypes := #[27] }, 4, "l11_group.go:35", #[⟨0, .data⟩], none⟩ (fun K hK => ?_)
              go_simp
              refine (HOK.out _ (Below.refl W5.heap.size W5).drew).mono ?_
              rintro r wym5x1 ⟨rfl, hb1⟩
              have Z1 : Hid (Below W5.heap.size W5 wym5x1) := grow_on (Below.refl W5.heap.size W5).drew hb1
              clear hb1
              try rw [hA]
              clear hHeld
              refine hK.out _ _ (HS.out _ Z1.out) (fun hHeld => ?_)
              clear hK K
              try go_frame
              refine tk 2 ⟨some 17, .unOp .not 4 (.tmp 16), 4, "l11_group.go:35", #[⟨1, .data⟩], none⟩ hHeld ?_
              try go_frame
              refine tk 3 ⟨some 18, .move (.tmp 17), 4, "l11_group.go:35", #[⟨2, .data⟩, ⟨1, .chain⟩], none⟩ hHeld ?_
              try go_frame
              refine tk 4 ⟨some 19, .load 27 (.tmp 6), 27, "l11_group.go:35", #[⟨3, .guard⟩], some (3, false)⟩ hHeld ?_
              try go_frame
              refine tk 5 ⟨some 20, .move (.tmp 1), 28, "l11_group.go:35", #[⟨3, .guard⟩], some (3, false)⟩ hHeld ?_
              try go_frame
              refine tk 7 ⟨some 22, .fieldAddr 53 (.tmp 2) 1, 0, "l11_group.go:35", #[⟨3, .guard⟩], some (3, false)⟩ hHeld ?_
              try go_frame
              refine tk 8 ⟨some 23, .load 25 (.tmp 22), 25, "l11_group.go:35", #[⟨7, .data⟩, ⟨3, .guard⟩], some (3, false)⟩ hHeld ?_
              try go_frame
              refine rd1 6 ⟨some 21, .call { callee := .value (.func 25), args := #[.tmp 19, .tmp 20], argTypes := #[27, 28] }, 25, "l11_group.go:35", #[⟨4, .data⟩, ⟨5, .data⟩, ⟨3, .chain⟩, ⟨3, .guard⟩], some (3, false)⟩ (fun K hK => ?_)
              go_simp
              refine (HKE.out _ Z1.out).mono ?_
              rintro r wym5x6 ⟨⟨MK, ck, rfl, hOK⟩, hb3⟩
              have Z3 : Hid (Below W5.heap.size W5 wym5x6) := grow_on Z1.out hb3
              have HO3 : Hid (Reads wym5x6 (some ⟨MK, 0, none⟩) (projB (nthP P k).l by')) := own_reads hOK
              clear hb3 hOK
              clear hHeld
              refine hK.out _ _ (HS.out _ Z3.out) (fun hHeld => ?_)
              clear hK K
              try go_frame
              refine rd1 9 ⟨some 24, .call { callee := .value (.func 44), args := #[.tmp 21, .tmp 23], argTypes := #[25, 25] }, 4, "l11_group.go:35", #[⟨6, .data⟩, ⟨8, .data⟩, ⟨6, .chain⟩, ⟨3, .guard⟩], some (3, false)⟩ (fun K hK => ?_)
              go_simp
              refine (calls_drew (implSame_any _ _ _ _ (projB (nthP P k).l by') key _ HO3.out (HK.out.1.below (grow_on HBX.out Z3.out)) HPL.out HK.out.2)).mono ?_
              rintro r wym5x9 ⟨rfl, hb4⟩
              have Z4 : Hid (Below W5.heap.size W5 wym5x9) := grow_on Z3.out hb4
              clear hb4
              try rw [hSm]
              clear hHeld
              refine hK.out _ _ (HS.out _ Z4.out) (fun hHeld => ?_)
              clear hK K
              try go_frame
              refine tk 10 ⟨some 25, .unOp .not 4 (.tmp 24), 4, "l11_group.go:35", #[⟨9, .data⟩, ⟨3, .guard⟩], some (3, false)⟩ hHeld ?_
              try go_frame
              refine tk 11 ⟨some 26, .pick (.tmp 18) (.const (.bool true)) (.tmp 25), 4, "l11_group.go:35", #[⟨3, .data⟩, ⟨10, .data⟩], none⟩ hHeld ?_
              try go_frame
              refine wpAnyH_done (by kernel_rfl) ?_ _
              clear hHeld HS
              go_upto_region 6 with fail
              have HS : Hid (∀ w', Below W5.heap.size W5 w' → w'.cell? ⟨wr.heap.size, 0, none⟩ = some (.slice ad (nthP P k).l.length cp) ∧ w'.cell? ⟨wr.heap.size, 1, none⟩ = some (.int .i64 (nthP P k).s) ∧ w'.cell? ⟨wr.heap.size, 2, none⟩ = some (.int .i64 (nthP P k).e) ∧ w'.cell? ⟨wr.heap.size, 3, none⟩ = some (.string (nthP P k).n) ∧ w'.cell? ⟨w.heap.size, 1, none⟩ = some (.slice ka key.length kc) ∧ w'.cell? ⟨w.heap.size, 4, none⟩ = some (.slice (some ⟨bb, off, none⟩) P.length cap) ∧ w'.cell? ⟨bb, off + m * 4, none⟩ = some (.slice ad2 (nthP P m).l.length cp2)) := fun w' h => ⟨(BX.out.grow h).cell 0, (BX.out.grow h).cell 1, (BX.out.grow h).cell 2, (BX.out.grow h).cell 3, (BG.out.grow h).cell 1, (BG.out.grow h).cell 4, ((grow_on HB5.out h).cell (p := ⟨bb, off + m * 4, none⟩) hbb).trans HA2.out.c0⟩
              refine wp_region_held_drew (S := fun w' => w'.cell? ⟨wr.heap.size, 0, none⟩ = some (.slice ad (nthP P k).l.length cp) ∧ w'.cell? ⟨wr.heap.size, 1, none⟩ = some (.int .i64 (nthP P k).s) ∧ w'.cell? ⟨wr.heap.size, 2, none⟩ = some (.int .i64 (nthP P k).e) ∧ w'.cell? ⟨wr.heap.size, 3, none⟩ = some (.string (nthP P k).n) ∧ w'.cell? ⟨w.heap.size, 1, none⟩ = some (.slice ka key.length kc) ∧ w'.cell? ⟨w.heap.size, 4, none⟩ = some (.slice (some ⟨bb, off, none⟩) P.length cap) ∧ w'.cell? ⟨bb, off + m * 4, none⟩ = some (.slice ad2 (nthP P m).l.length cp2)) (by kernel_rfl) (HS.out _ (grow_on Z4.out (Below.refl _ _).drew)) (fun hHeld => ?_)
              refine tk 0 ⟨some 27, .move (.tmp 5), 3, "l11_group.go:39", #[], none⟩ hHeld ?_
              try go_frame
              refine tk 1 ⟨some 28, .binOp .gtr 3 (.tmp 27) (.const (.int .i64 0)) 3, 4, "l11_group.go:39", #[⟨0, .data⟩], none⟩ hHeld ?_
              try go_frame
              refine tk 2 ⟨some 29, .move (.tmp 28), 4, "l11_group.go:39", #[⟨1, .data⟩], none⟩ hHeld ?_
              try go_frame
              refine tk 3 ⟨some 30, .fieldAddr 53 (.tmp 2) 4, 0, "l11_group.go:39", #[⟨2, .guard⟩], some (2, true)⟩ hHeld ?_
              try go_frame
              refine tk 4 ⟨some 31, .load 35 (.tmp 30), 35, "l11_group.go:39", #[⟨3, .data⟩, ⟨2, .guard⟩], some (2, true)⟩ hHeld ?_
              try go_frame
              refine tk 5 ⟨some 32, .move (.tmp 5), 3, "l11_group.go:39", #[⟨2, .guard⟩], some (2, true)⟩ hHeld ?_
              try go_frame
              refine tk 6 ⟨some 33, .binOp .sub 3 (.tmp 32) (.const (.int .i64 1)) 3, 3, "l11_group.go:39", #[⟨5, .data⟩, ⟨2, .guard⟩], some (2, true)⟩ hHeld ?_
              try go_frame
              refine tk 7 ⟨some 34, .indexAddr 35 (.tmp 31) (.tmp 33), 0, "l11_group.go:39", #[⟨4, .data⟩, ⟨6, .data⟩, ⟨2, .guard⟩], some (2, true)⟩ hHeld ?_
              try go_frame
              refine tk 8 ⟨some 35, .fieldAddr 27 (.tmp 34) 0, 0, "l11_group.go:39", #[⟨7, .data⟩, ⟨2, .guard⟩], some (2, true)⟩ hHeld ?_
              try go_frame
              refine tk 9 ⟨some 36, .load 25 (.tmp 35), 25, "l11_group.go:39", #[⟨8, .data⟩, ⟨2, .guard⟩], some (2, true)⟩ hHeld ?_
              try go_frame
              refine tk 10 ⟨some 37, .fieldAddr 27 (.tmp 6) 0, 0, "l11_group.go:39", #[⟨2, .guard⟩], some (2, true)⟩ hHeld ?_
              try go_frame
              refine tk 11 ⟨some 38, .load 25 (.tmp 37), 25, "l11_group.go:39", #[⟨10, .data⟩, ⟨2, .guard⟩], some (2, true)⟩ hHeld ?_
              try go_frame
              refine rd1 12 ⟨some 39, .call { callee := .value (.func 96), args := #[.tmp 36, .tmp 38], argTypes := #[25, 25] }, 4, "l11_group.go:39", #[⟨9, .data⟩, ⟨11, .data⟩, ⟨2, .chain⟩, ⟨2, .guard⟩], some (2, true)⟩ (fun K hK => ?_)
              go_simp
              refine (HLE.out _ (grow_on Z4.out (Below.refl _ _).drew)).mono ?_
              rintro r wym6x12 ⟨rfl, hb5⟩
              have Z5 : Hid (Below W5.heap.size W5 wym6x12) := grow_on (grow_on Z4.out (Below.refl _ _).drew) hb5
              clear hb5
              try rw [hLs]
              clear hHeld
              refine hK.out _ _ (HS.out _ Z5.out) (fun hHeld => ?_)
              clear hK K
              try go_frame
              refine tk 13 ⟨some 40, .unOp .not 4 (.tmp 39), 4, "l11_group.go:39", #[⟨12, .data⟩, ⟨2, .guard⟩], some (2, true)⟩ hHeld ?_
              try go_frame
              refine tk 14 ⟨some 41, .pick (.tmp 29) (.tmp 40) (.const (.bool false)), 4, "l11_group.go:39", #[⟨2, .data⟩, ⟨13, .data⟩], none⟩ hHeld ?_
              try go_frame
              refine wpAnyH_done (by kernel_rfl) ?_ _
              clear hHeld HS
              go_wp2
              go_ret
              exact ⟨retB HE.out.symm, grow_on HBX.out Z5.out⟩
            | true =>
              have HG : Hid (grAt key P by' k = true) := by unfold Hid grAt; rw [hA, hSm, hmk, hLs]; simp
              have HU1 : Hid (∀ j, j < k + 1 → grAt key P by' j = true) := fun j hj => by
                by_cases e : j = k
                · rw [e]; exact HG.out
                · exact HU.out j (by omega)
              clear hmk hk0
              have HS : Hid (∀ w', Below W5.heap.size W5 w' → w'.cell? ⟨wr.heap.size, 0, none⟩ = some (.slice ad (nthP P k).l.length cp) ∧ w'.cell? ⟨wr.heap.size, 1, none⟩ = some (.int .i64 (nthP P k).s) ∧ w'.cell? ⟨wr.heap.size, 2, none⟩ = some (.int .i64 (nthP P k).e) ∧ w'.cell? ⟨wr.heap.size, 3, none⟩ = some (.string (nthP P k).n) ∧ w'.cell? ⟨w.heap.size, 1, none⟩ = some (.slice ka key.length kc) ∧ w'.cell? ⟨w.heap.size, 4, none⟩ = some (.slice (some ⟨bb, off, none⟩) P.length cap)) := fun w' h => ⟨(BX.out.grow h).cell 0, (BX.out.grow h).cell 1, (BX.out.grow h).cell 2, (BX.out.grow h).cell 3, (BG.out.grow h).cell 1, (BG.out.grow h).cell 4⟩
              refine wp_region_held_drew (S := fun w' => w'.cell? ⟨wr.heap.size, 0, none⟩ = some (.slice ad (nthP P k).l.length cp) ∧ w'.cell? ⟨wr.heap.size, 1, none⟩ = some (.int .i64 (nthP P k).s) ∧ w'.cell? ⟨wr.heap.size, 2, none⟩ = some (.int .i64 (nthP P k).e) ∧ w'.cell? ⟨wr.heap.size, 3, none⟩ = some (.string (nthP P k).n) ∧ w'.cell? ⟨w.heap.size, 1, none⟩ = some (.slice ka key.length kc) ∧ w'.cell? ⟨w.heap.size, 4, none⟩ = some (.slice (some ⟨bb, off, none⟩) P.length cap)) (by kernel_rfl) (HS.out _ (Below.refl W5.heap.size W5).drew) (fun hHeld => ?_)
              refine tk 0 ⟨some 15, .load 27 (.tmp 6), 27, "l11_group.go:35", #[], none⟩ hHeld ?_
              try go_frame
              refine rd1 1 ⟨some 16, .call { callee := .value (.func 105), args := #[.tmp 15], argTypes := #[27] }, 4, "l11_group.go:35", #[⟨0, .data⟩], none⟩ (fun K hK => ?_)
              go_simp
              refine (HOK.out _ (Below.refl W5.heap.size W5).drew).mono ?_
              rintro r wym7x1 ⟨rfl, hb1⟩
              have Z1 : Hid (Below W5.heap.size W5 wym7x1) := grow_on (Below.refl W5.heap.size W5).drew hb1
              clear hb1
              try rw [hA]
              clear hHeld
              refine hK.out _ _ (HS.out _ Z1.out) (fun hHeld => ?_)
              clear hK K
              try go_frame
              refine tk 2 ⟨some 17, .unOp .not 4 (.tmp 16), 4, "l11_group.go:35", #[⟨1, .data⟩], none⟩ hHeld ?_
              try go_frame
              refine tk 3 ⟨some 18, .move (.tmp 17), 4, "l11_group.go:35", #[⟨2, .data⟩, ⟨1, .chain⟩], none⟩ hHeld ?_
              try go_frame
              refine tk 4 ⟨some 19, .load 27 (.tmp 6), 27, "l11_group.go:35", #[⟨3, .guard⟩], some (3, false)⟩ hHeld ?_
              try go_frame
              refine tk 5 ⟨some 20, .move (.tmp 1), 28, "l11_group.go:35", #[⟨3, .guard⟩], some (3, false)⟩ hHeld ?_
              try go_frame
              refine tk 7 ⟨some 22, .fieldAddr 53 (.tmp 2) 1, 0, "l11_group.go:35", #[⟨3, .guard⟩], some (3, false)⟩ hHeld ?_
              try go_frame
              refine tk 8 ⟨some 23, .load 25 (.tmp 22), 25, "l11_group.go:35", #[⟨7, .data⟩, ⟨3, .guard⟩], some (3, false)⟩ hHeld ?_
              try go_frame
              refine rd1 6 ⟨some 21, .call { callee := .value (.func 25), args := #[.tmp 19, .tmp 20], argTypes := #[27, 28] }, 25, "l11_group.go:35", #[⟨4, .data⟩, ⟨5, .data⟩, ⟨3, .chain⟩, ⟨3, .guard⟩], some (3, false)⟩ (fun K hK => ?_)
              go_simp
              refine (HKE.out _ Z1.out).mono ?_
              rintro r wym7x6 ⟨⟨MK, ck, rfl, hOK⟩, hb3⟩
              have Z3 : Hid (Below W5.heap.size W5 wym7x6) := grow_on Z1.out hb3
              have HO3 : Hid (Reads wym7x6 (some ⟨MK, 0, none⟩) (projB (nthP P k).l by')) := own_reads hOK
              clear hb3 hOK
              clear hHeld
              refine hK.out _ _ (HS.out _ Z3.out) (fun hHeld => ?_)
              clear hK K
              try go_frame
              refine rd1 9 ⟨some 24, .call { callee := .value (.func 44), args := #[.tmp 21, .tmp 23], argTypes := #[25, 25] }, 4, "l11_group.go:35", #[⟨6, .data⟩, ⟨8, .data⟩, ⟨6, .chain⟩, ⟨3, .guard⟩], some (3, false)⟩ (fun K hK => ?_)
              go_simp
              refine (calls_drew (implSame_any _ _ _ _ (projB (nthP P k).l by') key _ HO3.out (HK.out.1.below (grow_on HBX.out Z3.out)) HPL.out HK.out.2)).mono ?_
              rintro r wym7x9 ⟨rfl, hb4⟩
              have Z4 : Hid (Below W5.heap.size W5 wym7x9) := grow_on Z3.out hb4
              clear hb4
              try rw [hSm]
              clear hHeld
              refine hK.out _ _ (HS.out _ Z4.out) (fun hHeld => ?_)
              clear hK K
              try go_frame
              refine tk 10 ⟨some 25, .unOp .not 4 (.tmp 24), 4, "l11_group.go:35", #[⟨9, .data⟩, ⟨3, .guard⟩], some (3, false)⟩ hHeld ?_
              try go_frame
              refine tk 11 ⟨some 26, .pick (.tmp 18) (.const (.bool true)) (.tmp 25), 4, "l11_group.go:35", #[⟨3, .data⟩, ⟨10, .data⟩], none⟩ hHeld ?_
              try go_frame
              refine wpAnyH_done (by kernel_rfl) ?_ _
              clear hHeld HS
              go_upto_region 6 with fail
              have HS : Hid (∀ w', Below W5.heap.size W5 w' → w'.cell? ⟨wr.heap.size, 0, none⟩ = some (.slice ad (nthP P k).l.length cp) ∧ w'.cell? ⟨wr.heap.size, 1, none⟩ = some (.int .i64 (nthP P k).s) ∧ w'.cell? ⟨wr.heap.size, 2, none⟩ = some (.int .i64 (nthP P k).e) ∧ w'.cell? ⟨wr.heap.size, 3, none⟩ = some (.string (nthP P k).n) ∧ w'.cell? ⟨w.heap.size, 1, none⟩ = some (.slice ka key.length kc) ∧ w'.cell? ⟨w.heap.size, 4, none⟩ = some (.slice (some ⟨bb, off, none⟩) P.length cap) ∧ w'.cell? ⟨bb, off + m * 4, none⟩ = some (.slice ad2 (nthP P m).l.length cp2)) := fun w' h => ⟨(BX.out.grow h).cell 0, (BX.out.grow h).cell 1, (BX.out.grow h).cell 2, (BX.out.grow h).cell 3, (BG.out.grow h).cell 1, (BG.out.grow h).cell 4, ((grow_on HB5.out h).cell (p := ⟨bb, off + m * 4, none⟩) hbb).trans HA2.out.c0⟩
              refine wp_region_held_drew (S := fun w' => w'.cell? ⟨wr.heap.size, 0, none⟩ = some (.slice ad (nthP P k).l.length cp) ∧ w'.cell? ⟨wr.heap.size, 1, none⟩ = some (.int .i64 (nthP P k).s) ∧ w'.cell? ⟨wr.heap.size, 2, none⟩ = some (.int .i64 (nthP P k).e) ∧ w'.cell? ⟨wr.heap.size, 3, none⟩ = some (.string (nthP P k).n) ∧ w'.cell? ⟨w.heap.size, 1, none⟩ = some (.slice ka key.length kc) ∧ w'.cell? ⟨w.heap.size, 4, none⟩ = some (.slice (some ⟨bb, off, none⟩) P.length cap) ∧ w'.cell? ⟨bb, off + m * 4, none⟩ = some (.slice ad2 (nthP P m).l.length cp2)) (by kernel_rfl) (HS.out _ (grow_on Z4.out (Below.refl _ _).drew)) (fun hHeld => ?_)
              refine tk 0 ⟨some 27, .move (.tmp 5), 3, "l11_group.go:39", #[], none⟩ hHeld ?_
              try go_frame
              refine tk 1 ⟨some 28, .binOp .gtr 3 (.tmp 27) (.const (.int .i64 0)) 3, 4, "l11_group.go:39", #[⟨0, .data⟩], none⟩ hHeld ?_
              try go_frame
              refine tk 2 ⟨some 29, .move (.tmp 28), 4, "l11_group.go:39", #[⟨1, .data⟩], none⟩ hHeld ?_
              try go_frame
              refine tk 3 ⟨some 30, .fieldAddr 53 (.tmp 2) 4, 0, "l11_group.go:39", #[⟨2, .guard⟩], some (2, true)⟩ hHeld ?_
              try go_frame
              refine tk 4 ⟨some 31, .load 35 (.tmp 30), 35, "l11_group.go:39", #[⟨3, .data⟩, ⟨2, .guard⟩], some (2, true)⟩ hHeld ?_
              try go_frame
              refine tk 5 ⟨some 32, .move (.tmp 5), 3, "l11_group.go:39", #[⟨2, .guard⟩], some (2, true)⟩ hHeld ?_
              try go_frame
              refine tk 6 ⟨some 33, .binOp .sub 3 (.tmp 32) (.const (.int .i64 1)) 3, 3, "l11_group.go:39", #[⟨5, .data⟩, ⟨2, .guard⟩], some (2, true)⟩ hHeld ?_
              try go_frame
              refine tk 7 ⟨some 34, .indexAddr 35 (.tmp 31) (.tmp 33), 0, "l11_group.go:39", #[⟨4, .data⟩, ⟨6, .data⟩, ⟨2, .guard⟩], some (2, true)⟩ hHeld ?_
              try go_frame
              refine tk 8 ⟨some 35, .fieldAddr 27 (.tmp 34) 0, 0, "l11_group.go:39", #[⟨7, .data⟩, ⟨2, .guard⟩], some (2, true)⟩ hHeld ?_
              try go_frame
              refine tk 9 ⟨some 36, .load 25 (.tmp 35), 25, "l11_group.go:39", #[⟨8, .data⟩, ⟨2, .guard⟩], some (2, true)⟩ hHeld ?_
              try go_frame
              refine tk 10 ⟨some 37, .fieldAddr 27 (.tmp 6) 0, 0, "l11_group.go:39", #[⟨2, .guard⟩], some (2, true)⟩ hHeld ?_
              try go_frame
              refine tk 11 ⟨some 38, .load 25 (.tmp 37), 25, "l11_group.go:39", #[⟨10, .data⟩, ⟨2, .guard⟩], some (2, true)⟩ hHeld ?_
              try go_frame
              refine rd1 12 ⟨some 39, .call { callee := .value (.func 96), args := #[.tmp 36, .tmp 38], argTypes := #[25, 25] }, 4, "l11_group.go:39", #[⟨9, .data⟩, ⟨11, .data⟩, ⟨2, .chain⟩, ⟨2, .guard⟩], some (2, true)⟩ (fun K hK => ?_)
              go_simp
              refine (HLE.out _ (grow_on Z4.out (Below.refl _ _).drew)).mono ?_
              rintro r wym8x12 ⟨rfl, hb5⟩
              have Z5 : Hid (Below W5.heap.size W5 wym8x12) := grow_on (grow_on Z4.out (Below.refl _ _).drew) hb5
              clear hb5
              try rw [hLs]
              clear hHeld
              refine hK.out _ _ (HS.out _ Z5.out) (fun hHeld => ?_)
              clear hK K
              try go_frame
              refine tk 13 ⟨some 40, .unOp .not 4 (.tmp 39), 4, "l11_group.go:39", #[⟨12, .data⟩, ⟨2, .guard⟩], some (2, true)⟩ hHeld ?_
              try go_frame
              refine tk 14 ⟨some 41, .pick (.tmp 29) (.tmp 40) (.const (.bool false)), 4, "l11_group.go:39", #[⟨2, .data⟩, ⟨13, .data⟩], none⟩ hHeld ?_
              try go_frame
              refine wpAnyH_done (by kernel_rfl) ?_ _
              clear hHeld HS
              go_wp2
              go_roundw
              case rel => exact ⟨k + 1, by go_num, by omega, HU1.out, grow_on HBr.out (grow_on HB5.out Z5.out)⟩
              case measure => simp [intOf]; omega
    · have hge : ¬ (k : Int) < (P.length : Int) := by omega
      have HE : Hid (memB key P by' = true) := mem_good fun j hj => HU.out j (by omega)
      go_wp2
      go_ret
      exact ⟨retB HE.out.symm, HBw.out⟩
set_option maxHeartbeats 1600000 in
theorem implGroup_any (n b t : Int) (ka : Option Addr) (kc : Nat) (key : List Lab) (a : Option Addr) (cap : Nat) (P : List PAl) (ba : Option Addr) (bc : Nat) (by' : List ByteArray) (w : World) (hk : Reads w ka key) (hkl : key.length ≤ maxLen) (hkz : LabO.Fits key) (hr : RdA w a P) (hl : P.length ≤ 1048576) (hz : FitsP P) (hs : LenM P) (hb : RdS w ba by') (hbl : by'.length ≤ maxLen) :
    Calls Tryz.prog 47 #[.agg #[.int .i64 n, .slice ka key.length kc, .int .i64 b, .int .i64 t, .slice a P.length cap], .slice ba by'.length bc] w fun e w' => e = .returned (.bool (groupB n key b t P by')) ∧ Below w.heap.size w w' := by
  have HS : Hid (∀ y, Below w.heap.size w y → Calls Tryz.prog 78 #[.slice ka key.length kc] y fun e w' => e = .returned (.bool (setB key)) ∧ Below y.heap.size y w') := fun y hy => LabO.implSet_any ka kc key y (hk.below hy) hkl hkz
  have HT : Hid (∀ y, Calls Tryz.prog 79 #[.agg #[.int .i64 n, .slice ka key.length kc, .int .i64 b, .int .i64 t, .slice a P.length cap]] y fun e w' => e = .returned (.bool (timesB b t)) ∧ Below y.heap.size y w') := fun y => sendOk_any n b t _ _ y ⟨_, _, _, rfl⟩ ⟨_, _, _, rfl⟩
  have HM : Hid (∀ y, Below w.heap.size w y → Calls Tryz.prog 80 #[.agg #[.int .i64 n, .slice ka key.length kc, .int .i64 b, .int .i64 t, .slice a P.length cap], .slice ba by'.length bc] y fun e w' => e = .returned (.bool (memB key P by')) ∧ Below y.heap.size y w') := fun y hy => members_any n b t ka kc key a cap P ba bc by' y (hk.below hy) hkl (hr.below hy) hl hz hs (hb.below hy) hbl
  have HG : Hid (groupB n key b t P by' = (decide (0 ≤ n) && (setB key && (timesB b t && (decide (0 < P.length) && memB key P by'))))) := group_eq _ _ _ _ _ _
  clear hk hkl hkz hr hz hs hb hbl
  by_cases h0 : 0 ≤ n
  · go_enter Tryz.func47, Tryz.ntmps47
    go_wp2_with fail
    refine (HS.out _ (Go.Joins.below_alloc1 w _)).mono ?_
    rintro e w1 ⟨rfl, hb⟩
    have HB1 : Hid (Below w.heap.size w w1) := grow_on (Go.Joins.below_alloc1 w _) hb
    have BP1 : Hid (Blk w1 w.heap.size #[.int .i64 n, .slice ka key.length kc, .int .i64 b, .int .i64 t, .slice a P.length cap] 53) := (Blk.new _ _ _).grow hb
    clear hb
    cases h1 : setB key with
    | false =>
      have HE : Hid (groupB n key b t P by' = false) := by unfold Hid; rw [HG.out, h1]; simp
      clear h1
      go_wp2
      go_ret
      exact ⟨retB HE.out.symm, HB1.out⟩
    | true =>
      have p0 := BP1.out.cell 0
      have p1 := BP1.out.cell 1
      have p2 := BP1.out.cell 2
      have p3 := BP1.out.cell 3
      have p4 := BP1.out.cell 4
      simp at p0 p1 p2 p3 p4
      go_wp2_with fail
      refine (HT.out _).mono ?_
      rintro e w2 ⟨rfl, hb⟩
      have HB2 : Hid (Below w.heap.size w w2) := grow_on HB1.out hb
      have BP2 : Hid (Blk w2 w.heap.size #[.int .i64 n, .slice ka key.length kc, .int .i64 b, .int .i64 t, .slice a P.length cap] 53) := BP1.out.grow hb
      clear hb BP1 p0 p1 p2 p3 p4
      cases h2 : timesB b t with
      | false =>
        have HE : Hid (groupB n key b t P by' = false) := by unfold Hid; rw [HG.out, h2]; simp
        clear h2
        go_wp2
        go_ret
        exact ⟨retB HE.out.symm, HB2.out⟩
      | true =>
        have p0 := BP2.out.cell 0
        have p1 := BP2.out.cell 1
        have p2 := BP2.out.cell 2
        have p3 := BP2.out.cell 3
        have p4 := BP2.out.cell 4
        simp at p0 p1 p2 p3 p4
        by_cases h3 : 0 < P.length
        · have h3' : (0 : Int) < (P.length : Int) := by omega
          have HE : Hid (groupB n key b t P by' = memB key P by') := by unfold Hid; rw [HG.out, h1, h2, decide_eq_true h0, decide_eq_true h3]; rfl
          clear h1 h2
          go_wp2_with fail
          refine (HM.out _ HB2.out).mono ?_
          rintro e w3 ⟨rfl, hb⟩
          have HB3 : Hid (Below w.heap.size w w3) := grow_on HB2.out hb
          clear hb BP2 p0 p1 p2 p3 p4
          go_wp2
          go_ret
          exact ⟨retB HE.out.symm, HB3.out⟩
        · have h3' : ¬ (0 : Int) < (P.length : Int) := by omega
          have HE : Hid (groupB n key b t P by' = false) := by unfold Hid; rw [HG.out, decide_eq_false h3]; simp
          clear h1 h2
          go_wp2
          go_ret
          exact ⟨retB HE.out.symm, HB2.out⟩
  · have HE : Hid (groupB n key b t P by' = false) := by unfold Hid; rw [HG.out, decide_eq_false h0]; rfl
    go_enter Tryz.func47, Tryz.ntmps47
    go_wp2
    go_ret
    exact ⟨retB HE.out.symm, Go.Joins.below_alloc1 w _⟩
end Go.Proofs.YtgncimlojbnbfaaGreat.GrpI
