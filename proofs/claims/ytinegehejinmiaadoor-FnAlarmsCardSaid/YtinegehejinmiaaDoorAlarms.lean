/-
  PROVED: whatever the code, the law laws.FnAlarms returns true and leaves the code as it was: of the drawn alarms each function of chapter 4 answers as the specification has it, and what is over stays so, where the listed tables of the library hold what the program's text lays in them, to which the card ties them.
-/
import Derived.Test.YtinegehejinmiaaDoorRows
import Derived.WalkKit
import Derived.ProofKit
import Derived.OpenShut
import Derived.ShutString
import Derived.ChangeOld
import Derived.Below
import Derived.WalkLawsBesides
import Derived.WalkSpells
import Derived.Test.YtinegehejinmiaaDoorTie
import Derived.Test.YtinegehejinmiaaDoorCards
import Derived.Test.YtinegehejinmiaaDoorDrawB
import Derived.Test.YtinegehejinmiaaDoorAlmT
import Derived.LaidMore
import Derived.Stop.Joined
import Derived.Stop.LaidErr
import Derived.Lib.LaidTab
import Derived.SevenTiedAt
import Derived.WalkSmall
namespace Go.Proofs.YtinegehejinmiaaDoor.FnAlarms
open Go.ChangeShapes Go.WideShapes Go.ChangeAt Go.RowKit
open Go.ChangeMaps (open_string shut_string)
set_option linter.unusedVariables false

open Go.Proofs.YtinegehejinmiaaDoor.Labs Go.Proofs.YtinegehejinmiaaDoor.LabS Go.Proofs.YtinegehejinmiaaDoor.Draw Go.Proofs.YtinegehejinmiaaDoor.DrawL Go.Proofs.YtinegehejinmiaaDoor.DrawB Go.Proofs.YtinegehejinmiaaDoor.LawB Go.Proofs.YtinegehejinmiaaDoor.Over Go.Proofs.YtinegehejinmiaaDoor.Blk Go.Proofs.YtinegehejinmiaaDoor.Alm Go.Proofs.YtinegehejinmiaaDoor.AlmS
open Go.Proofs.YtinegehejinmiaaDoor.AlmT (alarmText at_yes at_no put8 specAlText_any implAlText_any Tab Tab.below)
open Go.Proofs.YtinegehejinmiaaDoor.DrawA (I64)

theorem text_empty (l : List Lab) (s e : Int) (n : ByteArray) : (alarmText l s e n).toList.isEmpty = !alarmB l s e n := by
  cases h : alarmB l s e n with
  | false => rw [at_no h, ByteArray.toList_eq]; rfl
  | true =>
    rw [at_yes h, ByteArray.toList_eq]
    unfold put8 SetP.mk
    simp
theorem over_more {e now : Int} (h : overB e now = true) : overB e (now + 1) = true := by
  unfold overB at *
  have := of_decide_eq_true h
  exact decide_eq_true (by omega)

set_option maxRecDepth 100000 in
set_option maxHeartbeats 20000000 in
theorem core (a : Option Addr) (len cap : Nat) (w : World) (hl : len ≤ maxLen) (hb : Bytes w a len w.heap.size) (ht : Tab w) :
    Calls Tryd.prog 3 #[.slice a len cap] w fun e w' => e = .returned (.bool true) ∧ Below w.heap.size w w' := by
  have HB : Hid (Bytes w a len w.heap.size) := hb
  have HL : Hid (len ≤ maxLen) := hl
  have HTab : Hid (Tab w) := ht
  clear hb hl ht
  by_cases hbig : (1048576 : Int) < (len : Int)
  · have HC : Hid (Calls Tryd.prog 4 #[.slice a len cap] w fun e w' => e = .returned (.bool true) ∧ w' = w) := (big_any a len cap w HL.out).mono fun e w' h => ⟨h.1.trans (retB (decide_eq_true hbig)), h.2⟩
    go_enter Tryd.func3, Tryd.ntmps3
    go_wp2_with fail
    refine HC.out.mono ?_
    rintro e w1 ⟨rfl, rfl⟩
    go_wp2
    go_ret
    exact ⟨rfl, Below.refl _ _⟩
  have HC : Hid (Calls Tryd.prog 4 #[.slice a len cap] w fun e w' => e = .returned (.bool false) ∧ w' = w) := (big_any a len cap w HL.out).mono fun e w' h => ⟨h.1.trans (retB (decide_eq_false hbig)), h.2⟩
  go_enter Tryd.func3, Tryd.ntmps3
  go_wp2_with fail
  refine HC.out.mono ?_
  rintro e wq ⟨rfl, hw⟩
  obtain rfl := hw.symm
  clear HC hw
  have B0 : Hid (Below w.heap.size w w) := Below.refl _ _
  go_wp2_with fail
  refine (drawAlarmOk_any a len cap _ HL.out (bytes_up HB.out B0.out)).mono ?_
  rintro e w1 ⟨⟨g1, c1, p1, s1, e1, n1, rfl, hd1⟩, hb⟩
  have D1_1 : Hid (Drawn w1 g1 p1 s1 e1 n1) := hd1
  have B1 : Hid (Below w.heap.size w w1) := grow_on B0.out hb
  clear hb hd1
  go_wp2_with fail
  refine (drawSame_any a len cap _ HL.out (bytes_up HB.out (grow_on B1.out (Go.Joins.below_alloc1 w1 _)))).mono ?_
  rintro e w2 ⟨⟨g2, c2, p2, s2, e2, n2, g3, c3, p3, s3, e3, n3, rfl, hd2, hd3⟩, hb⟩
  have D2_2 : Hid (Drawn w2 g2 p2 s2 e2 n2) := hd2
  have D3_2 : Hid (Drawn w2 g3 p3 s3 e3 n3) := hd3
  have A1_2 : Hid (Blk w2 w1.heap.size #[.slice (some ⟨g1, 0, none⟩) p1.length c1, .int .i64 s1, .int .i64 e1, .string n1] 26) := (Blk.new _ _ _).grow hb
  replace hb := grow_on (Go.Joins.below_alloc1 w1 _) hb
  have B2 : Hid (Below w.heap.size w w2) := grow_on B1.out hb
  have D1_2 : Hid (Drawn w2 g1 p1 s1 e1 n1) := D1_1.out.below hb
  clear hb hd2 hd3
  go_wp2_with fail
  refine (drawOver_any a len cap _ HL.out (bytes_up HB.out (grow_on B2.out (Go.Joins.below_alloc2 w2 _ _)))).mono ?_
  rintro e w3 ⟨⟨g4, c4, p4, s4, e4, n4, now, rfl, hd4, hnow⟩, hb⟩
  have D4_3 : Hid (Drawn w3 g4 p4 s4 e4 n4) := hd4
  have A2_3 : Hid (Blk w3 w2.heap.size #[.slice (some ⟨g2, 0, none⟩) p2.length c2, .int .i64 s2, .int .i64 e2, .string n2] 26) := ((Blk.new _ _ _).alloc _).grow hb
  have A3_3 : Hid (Blk w3 (w2.heap.size + 1) #[.slice (some ⟨g3, 0, none⟩) p3.length c3, .int .i64 s3, .int .i64 e3, .string n3] 26) := (Blk.new_at (by simp)).grow hb
  replace hb := grow_on (Go.Joins.below_alloc2 w2 _ _) hb
  have B3 : Hid (Below w.heap.size w w3) := grow_on B2.out hb
  have D1_3 : Hid (Drawn w3 g1 p1 s1 e1 n1) := D1_2.out.below hb
  have A1_3 : Hid (Blk w3 w1.heap.size #[.slice (some ⟨g1, 0, none⟩) p1.length c1, .int .i64 s1, .int .i64 e1, .string n1] 26) := A1_2.out.grow hb
  have D2_3 : Hid (Drawn w3 g2 p2 s2 e2 n2) := D2_2.out.below hb
  have D3_3 : Hid (Drawn w3 g3 p3 s3 e3 n3) := D3_2.out.below hb
  clear hb hd4
  go_wp2_with fail
  refine (drawAlarmText_any a len cap _ HL.out (bytes_up HB.out (grow_on B3.out (Go.Joins.below_alloc1 w3 _)))).mono ?_
  rintro e w4 ⟨⟨g5, c5, p5, s5, e5, n5, rfl, hd5⟩, hb⟩
  have D5_4 : Hid (Drawn w4 g5 p5 s5 e5 n5) := hd5
  have A4_4 : Hid (Blk w4 w3.heap.size #[.slice (some ⟨g4, 0, none⟩) p4.length c4, .int .i64 s4, .int .i64 e4, .string n4] 26) := (Blk.new _ _ _).grow hb
  replace hb := grow_on (Go.Joins.below_alloc1 w3 _) hb
  have B4 : Hid (Below w.heap.size w w4) := grow_on B3.out hb
  have D1_4 : Hid (Drawn w4 g1 p1 s1 e1 n1) := D1_3.out.below hb
  have A1_4 : Hid (Blk w4 w1.heap.size #[.slice (some ⟨g1, 0, none⟩) p1.length c1, .int .i64 s1, .int .i64 e1, .string n1] 26) := A1_3.out.grow hb
  have D2_4 : Hid (Drawn w4 g2 p2 s2 e2 n2) := D2_3.out.below hb
  have D3_4 : Hid (Drawn w4 g3 p3 s3 e3 n3) := D3_3.out.below hb
  have A2_4 : Hid (Blk w4 w2.heap.size #[.slice (some ⟨g2, 0, none⟩) p2.length c2, .int .i64 s2, .int .i64 e2, .string n2] 26) := A2_3.out.grow hb
  have A3_4 : Hid (Blk w4 (w2.heap.size + 1) #[.slice (some ⟨g3, 0, none⟩) p3.length c3, .int .i64 s3, .int .i64 e3, .string n3] 26) := A3_3.out.grow hb
  have D4_4 : Hid (Drawn w4 g4 p4 s4 e4 n4) := D4_3.out.below hb
  clear hb hd5
  go_wp2
  generalize hz : w4.alloc (.cells #[.slice (some ⟨g5, 0, none⟩) p5.length c5, .int .i64 s5, .int .i64 e5, .string n5] 26) = z
  have hbz : Below w4.heap.size w4 z := by rw [← hz]; exact Go.Joins.below_alloc1 w4 _
  have A5_z : Hid (Blk z w4.heap.size #[.slice (some ⟨g5, 0, none⟩) p5.length c5, .int .i64 s5, .int .i64 e5, .string n5] 26) := by rw [← hz]; exact Blk.new _ _ _
  have D1_z : Hid (Drawn z g1 p1 s1 e1 n1) := D1_4.out.below hbz
  have A1_z : Hid (Blk z w1.heap.size #[.slice (some ⟨g1, 0, none⟩) p1.length c1, .int .i64 s1, .int .i64 e1, .string n1] 26) := A1_4.out.grow hbz
  have D2_z : Hid (Drawn z g2 p2 s2 e2 n2) := D2_4.out.below hbz
  have D3_z : Hid (Drawn z g3 p3 s3 e3 n3) := D3_4.out.below hbz
  have A2_z : Hid (Blk z w2.heap.size #[.slice (some ⟨g2, 0, none⟩) p2.length c2, .int .i64 s2, .int .i64 e2, .string n2] 26) := A2_4.out.grow hbz
  have A3_z : Hid (Blk z (w2.heap.size + 1) #[.slice (some ⟨g3, 0, none⟩) p3.length c3, .int .i64 s3, .int .i64 e3, .string n3] 26) := A3_4.out.grow hbz
  have D4_z : Hid (Drawn z g4 p4 s4 e4 n4) := D4_4.out.below hbz
  have A4_z : Hid (Blk z w3.heap.size #[.slice (some ⟨g4, 0, none⟩) p4.length c4, .int .i64 s4, .int .i64 e4, .string n4] 26) := A4_4.out.grow hbz
  have D5_z : Hid (Drawn z g5 p5 s5 e5 n5) := D5_4.out.below hbz
  have BZ : Hid (Below w.heap.size w z) := grow_on B4.out hbz
  clear hz hbz
  have hne := Grown.some z
  have cA10 : ∀ x : Grown z, x.out.cell? ⟨w1.heap.size, 0, none⟩ = some (.slice (some ⟨g1, 0, none⟩) p1.length c1) := fun x => x.cell A1_z.out.lt (A1_z.out.cell 0)
  have cA11 : ∀ x : Grown z, x.out.cell? ⟨w1.heap.size, 1, none⟩ = some (.int .i64 s1) := fun x => x.cell A1_z.out.lt (A1_z.out.cell 1)
  have cA12 : ∀ x : Grown z, x.out.cell? ⟨w1.heap.size, 2, none⟩ = some (.int .i64 e1) := fun x => x.cell A1_z.out.lt (A1_z.out.cell 2)
  have cA13 : ∀ x : Grown z, x.out.cell? ⟨w1.heap.size, 3, none⟩ = some (.string n1) := fun x => x.cell A1_z.out.lt (A1_z.out.cell 3)
  have cA20 : ∀ x : Grown z, x.out.cell? ⟨w2.heap.size, 0, none⟩ = some (.slice (some ⟨g2, 0, none⟩) p2.length c2) := fun x => x.cell A2_z.out.lt (A2_z.out.cell 0)
  have cA21 : ∀ x : Grown z, x.out.cell? ⟨w2.heap.size, 1, none⟩ = some (.int .i64 s2) := fun x => x.cell A2_z.out.lt (A2_z.out.cell 1)
  have cA22 : ∀ x : Grown z, x.out.cell? ⟨w2.heap.size, 2, none⟩ = some (.int .i64 e2) := fun x => x.cell A2_z.out.lt (A2_z.out.cell 2)
  have cA23 : ∀ x : Grown z, x.out.cell? ⟨w2.heap.size, 3, none⟩ = some (.string n2) := fun x => x.cell A2_z.out.lt (A2_z.out.cell 3)
  have cA30 : ∀ x : Grown z, x.out.cell? ⟨(w2.heap.size + 1), 0, none⟩ = some (.slice (some ⟨g3, 0, none⟩) p3.length c3) := fun x => x.cell A3_z.out.lt (A3_z.out.cell 0)
  have cA31 : ∀ x : Grown z, x.out.cell? ⟨(w2.heap.size + 1), 1, none⟩ = some (.int .i64 s3) := fun x => x.cell A3_z.out.lt (A3_z.out.cell 1)
  have cA32 : ∀ x : Grown z, x.out.cell? ⟨(w2.heap.size + 1), 2, none⟩ = some (.int .i64 e3) := fun x => x.cell A3_z.out.lt (A3_z.out.cell 2)
  have cA33 : ∀ x : Grown z, x.out.cell? ⟨(w2.heap.size + 1), 3, none⟩ = some (.string n3) := fun x => x.cell A3_z.out.lt (A3_z.out.cell 3)
  have cA40 : ∀ x : Grown z, x.out.cell? ⟨w3.heap.size, 0, none⟩ = some (.slice (some ⟨g4, 0, none⟩) p4.length c4) := fun x => x.cell A4_z.out.lt (A4_z.out.cell 0)
  have cA41 : ∀ x : Grown z, x.out.cell? ⟨w3.heap.size, 1, none⟩ = some (.int .i64 s4) := fun x => x.cell A4_z.out.lt (A4_z.out.cell 1)
  have cA42 : ∀ x : Grown z, x.out.cell? ⟨w3.heap.size, 2, none⟩ = some (.int .i64 e4) := fun x => x.cell A4_z.out.lt (A4_z.out.cell 2)
  have cA43 : ∀ x : Grown z, x.out.cell? ⟨w3.heap.size, 3, none⟩ = some (.string n4) := fun x => x.cell A4_z.out.lt (A4_z.out.cell 3)
  have cA50 : ∀ x : Grown z, x.out.cell? ⟨w4.heap.size, 0, none⟩ = some (.slice (some ⟨g5, 0, none⟩) p5.length c5) := fun x => x.cell A5_z.out.lt (A5_z.out.cell 0)
  have cA51 : ∀ x : Grown z, x.out.cell? ⟨w4.heap.size, 1, none⟩ = some (.int .i64 s5) := fun x => x.cell A5_z.out.lt (A5_z.out.cell 1)
  have cA52 : ∀ x : Grown z, x.out.cell? ⟨w4.heap.size, 2, none⟩ = some (.int .i64 e5) := fun x => x.cell A5_z.out.lt (A5_z.out.cell 2)
  have cA53 : ∀ x : Grown z, x.out.cell? ⟨w4.heap.size, 3, none⟩ = some (.string n5) := fun x => x.cell A5_z.out.lt (A5_z.out.cell 3)
  have C1 : Hid (∀ x : Grown z, Calls Tryd.prog 9 #[.agg #[.slice (some ⟨g1, 0, none⟩) p1.length c1, .int .i64 s1, .int .i64 e1, .string n1]] x.out fun r w' => r = .returned (.bool (alarmB p1 s1 e1 n1)) ∧ Below x.out.heap.size x.out w') := fun x => implAlarm_any _ _ p1 s1 e1 n1 _ (D1_z.out.below x.bel).al
  have C2 : Hid (∀ x : Grown z, Calls Tryd.prog 10 #[.agg #[.slice (some ⟨g1, 0, none⟩) p1.length c1, .int .i64 s1, .int .i64 e1, .string n1]] x.out fun r w' => r = .returned (.bool (alarmB p1 s1 e1 n1)) ∧ Below x.out.heap.size x.out w') := fun x => specAlarm_any _ _ p1 s1 e1 n1 _ (D1_z.out.below x.bel).al
  have C3 : Hid (∀ x : Grown z, Calls Tryd.prog 11 #[.agg #[.slice (some ⟨g2, 0, none⟩) p2.length c2, .int .i64 s2, .int .i64 e2, .string n2], .agg #[.slice (some ⟨g3, 0, none⟩) p3.length c3, .int .i64 s3, .int .i64 e3, .string n3]] x.out fun r w' => r = .returned (.bool (sameB p2 s2 e2 n2 p3 s3 e3 n3)) ∧ Below x.out.heap.size x.out w') := fun x => implSameA_any _ _ _ _ p2 p3 s2 e2 s3 e3 n2 n3 _ (D2_z.out.below x.bel).al.reads (D3_z.out.below x.bel).al.reads (D2_z.out.below x.bel).al.len (D3_z.out.below x.bel).al.len
  have C4 : Hid (∀ x : Grown z, Calls Tryd.prog 12 #[.agg #[.slice (some ⟨g2, 0, none⟩) p2.length c2, .int .i64 s2, .int .i64 e2, .string n2], .agg #[.slice (some ⟨g3, 0, none⟩) p3.length c3, .int .i64 s3, .int .i64 e3, .string n3]] x.out fun r w' => r = .returned (.bool (sameB p2 s2 e2 n2 p3 s3 e3 n3)) ∧ Below x.out.heap.size x.out w') := fun x => specSameA_any _ _ _ _ p2 p3 s2 e2 s3 e3 n2 n3 _ (D2_z.out.below x.bel).al.reads (D3_z.out.below x.bel).al.reads (D2_z.out.below x.bel).al.len (D3_z.out.below x.bel).al.len
  have C5 : Hid (∀ x : Grown z, Calls Tryd.prog 11 #[.agg #[.slice (some ⟨g1, 0, none⟩) p1.length c1, .int .i64 s1, .int .i64 e1, .string n1], .agg #[.slice (some ⟨g1, 0, none⟩) p1.length c1, .int .i64 s1, .int .i64 e1, .string n1]] x.out fun r w' => r = .returned (.bool true) ∧ Below x.out.heap.size x.out w') := fun x => (implSameA_any _ _ _ _ p1 p1 s1 e1 s1 e1 n1 n1 _ (D1_z.out.below x.bel).al.reads (D1_z.out.below x.bel).al.reads (D1_z.out.below x.bel).al.len (D1_z.out.below x.bel).al.len).mono fun r w' h => ⟨h.1.trans (retB (same_self _ _ _ _)), h.2⟩
  have C6 : Hid (∀ x : Grown z, Calls Tryd.prog 13 #[.agg #[.slice (some ⟨g4, 0, none⟩) p4.length c4, .int .i64 s4, .int .i64 e4, .string n4], .int .i64 now] x.out fun r w' => r = .returned (.bool (overB e4 now)) ∧ Below x.out.heap.size x.out w') := fun x => implOver_any _ s4 e4 n4 now _
  have C7 : Hid (∀ x : Grown z, Calls Tryd.prog 14 #[.agg #[.slice (some ⟨g4, 0, none⟩) p4.length c4, .int .i64 s4, .int .i64 e4, .string n4], .int .i64 now] x.out fun r w' => r = .returned (.bool (overB e4 now)) ∧ Below x.out.heap.size x.out w') := fun x => specOver_any _ s4 e4 n4 now _
  have C9 : Hid (∀ x : Grown z, Calls Tryd.prog 15 #[.agg #[.slice (some ⟨g5, 0, none⟩) p5.length c5, .int .i64 s5, .int .i64 e5, .string n5]] x.out fun r w' => r = .returned (.string (alarmText p5 s5 e5 n5)) ∧ Below x.out.heap.size x.out w') := fun x => implAlText_any _ _ p5 s5 e5 n5 _ (D5_z.out.below x.bel).al ((HTab.out.below BZ.out).below x.bel)
  have C10 : Hid (∀ x : Grown z, Calls Tryd.prog 16 #[.agg #[.slice (some ⟨g5, 0, none⟩) p5.length c5, .int .i64 s5, .int .i64 e5, .string n5]] x.out fun r w' => r = .returned (.string (alarmText p5 s5 e5 n5)) ∧ Below x.out.heap.size x.out w') := fun x => specAlText_any _ _ p5 s5 e5 n5 _ (D5_z.out.below x.bel).al
  have C11 : Hid (∀ x : Grown z, Calls Tryd.prog 9 #[.agg #[.slice (some ⟨g5, 0, none⟩) p5.length c5, .int .i64 s5, .int .i64 e5, .string n5]] x.out fun r w' => r = .returned (.bool (alarmB p5 s5 e5 n5)) ∧ Below x.out.heap.size x.out w') := fun x => implAlarm_any _ _ p5 s5 e5 n5 _ (D5_z.out.below x.bel).al
  have hx1 := text_empty p5 s5 e5 n5
  have hx2 : ((alarmText p5 s5 e5 n5).toList == (alarmText p5 s5 e5 n5).toList) = true := beqS_yes rfl
  have hov : overB e4 now = true → overB e4 (now + 1) = true := over_more
  generalize alarmB p1 s1 e1 n1 = o1 at C1 C2
  generalize sameB p2 s2 e2 n2 p3 s3 e3 n3 = o2 at C3 C4
  generalize alarmText p5 s5 e5 n5 = tx at C9 C10 hx1 hx2
  generalize alarmB p5 s5 e5 n5 = o5 at C11 hx1
  have HOV : Hid (overB e4 now = true → overB e4 (now + 1) = true) := hov
  clear hov
  have q1 : (o1 == o1) = true := beq_self_eq_true _
  have q2 : (o2 == o2) = true := beq_self_eq_true _
  obtain ⟨hn0, hn1⟩ := hnow
  cases hov : overB e4 now with
  | false =>
    rw [hov] at C6 C7
    clear hov HOV hn0 hn1
    refine wp_over (z := z) (by kernel_rfl) (by kernel_rfl) (Below.refl _ _) ?_
    repeat (go_big_quiet_step (first | (go_at_call 9; with_reducible exact call_over (C1.out _)) | (go_at_call 9; with_reducible exact call_over (C11.out _)) | (go_at_call 10; with_reducible exact call_over (C2.out _)) | (go_at_call 11; with_reducible exact call_over (C3.out _)) | (go_at_call 11; with_reducible exact call_over (C5.out _)) | (go_at_call 12; with_reducible exact call_over (C4.out _)) | (go_at_call 13; with_reducible exact call_over (C6.out _)) | (go_at_call 14; with_reducible exact call_over (C7.out _)) | (go_at_call 15; with_reducible exact call_over (C9.out _)) | (go_at_call 16; with_reducible exact call_over (C10.out _))))
    refine wpQuiet_nil ?_
    intro w9 hw9
    have hb9 := over_bel hw9
    clear hw9 hne
    go_wp2
    go_ret
    exact ⟨rfl, grow_on BZ.out hb9⟩
  | true =>
    have H8 : Hid (overB e4 (now + 1) = true) := HOV.out hov
    rw [hov] at C6 C7
    clear hov HOV
    by_cases hgt : (1099511627776 : Int) < now
    · clear H8
      refine wp_over (z := z) (by kernel_rfl) (by kernel_rfl) (Below.refl _ _) ?_
      repeat (go_big_quiet_step (first | (go_at_call 9; with_reducible exact call_over (C1.out _)) | (go_at_call 9; with_reducible exact call_over (C11.out _)) | (go_at_call 10; with_reducible exact call_over (C2.out _)) | (go_at_call 11; with_reducible exact call_over (C3.out _)) | (go_at_call 11; with_reducible exact call_over (C5.out _)) | (go_at_call 12; with_reducible exact call_over (C4.out _)) | (go_at_call 13; with_reducible exact call_over (C6.out _)) | (go_at_call 14; with_reducible exact call_over (C7.out _)) | (go_at_call 15; with_reducible exact call_over (C9.out _)) | (go_at_call 16; with_reducible exact call_over (C10.out _))))
      refine wpQuiet_nil ?_
      intro w9 hw9
      have hb9 := over_bel hw9
      clear hw9 hne
      go_wp2
      go_ret
      exact ⟨rfl, grow_on BZ.out hb9⟩
    · skip
      have C8 : Hid (∀ x : Grown z, Calls Tryd.prog 13 #[.agg #[.slice (some ⟨g4, 0, none⟩) p4.length c4, .int .i64 s4, .int .i64 e4, .string n4], .int .i64 (now + 1)] x.out fun r w' => r = .returned (.bool true) ∧ Below x.out.heap.size x.out w') := fun x => (implOver_any _ s4 e4 n4 (now + 1) _).mono fun r w' h => ⟨h.1.trans (retB H8.out), h.2⟩
      refine wp_over (z := z) (by kernel_rfl) (by kernel_rfl) (Below.refl _ _) ?_
      repeat (go_big_quiet_step (first | (go_at_call 9; with_reducible exact call_over (C1.out _)) | (go_at_call 9; with_reducible exact call_over (C11.out _)) | (go_at_call 10; with_reducible exact call_over (C2.out _)) | (go_at_call 11; with_reducible exact call_over (C3.out _)) | (go_at_call 11; with_reducible exact call_over (C5.out _)) | (go_at_call 12; with_reducible exact call_over (C4.out _)) | (go_at_call 13; with_reducible exact call_over (C6.out _)) | (go_at_call 14; with_reducible exact call_over (C7.out _)) | (go_at_call 15; with_reducible exact call_over (C9.out _)) | (go_at_call 16; with_reducible exact call_over (C10.out _)) | (go_at_call 13; with_reducible exact call_over (C8.out _))))
      refine wpQuiet_nil ?_
      intro w9 hw9
      have hb9 := over_bel hw9
      clear hw9 hne
      go_wp2
      go_ret
      exact ⟨rfl, grow_on BZ.out hb9⟩

theorem walk (a : Option Addr) (len cap : Nat) (zs : List Int) (w : World) (h : IsRow .u8 w a len cap zs) (ht : Lib.TabIs Tryd.prog w "internal/strconv.uint64pow10" .u64 Lib.pow10Tab) :
    Calls Tryd.prog 3 #[.slice a len cap] w fun e w' => e = .returned (.bool true) ∧ Below w.heap.size w w' := by
  obtain ⟨hl, hb⟩ := bytes_of h
  exact core a len cap w hl hb ht
theorem own : ownKnob Tryd.prog.godebug = none := by kernel_rfl
theorem laidOut : laidOutB Tryd.prog = true := by kernel_rfl
theorem tab2 {W : World} (h : laidMetH Tryd.prog Rows.fnAlarmsRow.laid W) : Lib.TabIs Tryd.prog W "internal/strconv.uint64pow10" .u64 Lib.pow10Tab := by
  rw [MakeChecks.laidMetH_plain _ _ _ (by kernel_rfl)] at h
  have h1 : laidMet Tryd.prog [("math/bits.deBruijn32tab", Rows.laid_math_bits_deBruijn32tab), ("math/bits.deBruijn64tab", Rows.laid_math_bits_deBruijn64tab), ("internal/strconv.uint64pow10", Rows.laid_internal_strconv_uint64pow10)] W := h
  exact Lib.tabIs_of_head (g := 0) (by kernel_rfl) (t := 92) (by kernel_rfl) Tryd.underlying92 Tryd.underlying69 (by kernel_rfl) (by kernel_rfl) (laidMet.tail (laidMet.tail (h1)))
theorem door_met (os : Os) (args : Array Value) : laidMetH Tryd.prog Rows.fnAlarmsRow.laid ((World.doorLaid Tryd.prog 400 os).forCall (fun _ _ => 0) ⟨#[], args, []⟩).memory :=
  laidMetH_of_parts3 (fuel := 8) (laidMet_of_run' 8 (by kernel_rfl) (by kernel_rfl)) (by kernel_rfl) (by kernel_rfl)
set_option maxRecDepth 100000 in
theorem lifted (os : Os) (started : os.Started) (H : Type) (enc : TypeId × Value → H) :
    ReturnsInHanded {} Tryd.checked os 3 .any (fun w args => (Rows.fnAlarmsSpec.pre enc Tryd.prog Tryd.f3 [] false w args ∧ laidMetH Tryd.prog Rows.fnAlarmsRow.laid w) ∧ sizedMet enc Tryd.prog Tryd.f3 (OpenSpec.ofChange Rows.fnAlarmsSpec) false w args)
      (Rows.fnAlarmsSpec.post enc Tryd.prog Tryd.f3 false true false false) := by
  refine returnsInHanded_of_change_and (C := Tryd.checked) (X := fun w _ => laidMetH Tryd.prog Rows.fnAlarmsRow.laid w) (fun _ _ _ hh h => h.of_heap hh) own started (by kernel_rfl) Tryd.func3
    (ChangeSpec.witness_shaped (enc := enc) (C := Tryd.checked) (os := os) (X := fun w _ => laidMetH Tryd.prog Rows.fnAlarmsRow.laid w) false (World.doorLaid Tryd.prog 400 os) #[.slice none 0 0] 8 rfl (World.shaped_of_RefB (by kernel_rfl) (by kernel_rfl)) (by kernel_rfl) (by kernel_rfl) (by kernel_rfl) (door_met os _)) ?_
  intro W base args ds gs before hval0 hW _ _ hL _
  have hval : ∀ (j : Nat) t v, Tryd.f3.params[j]? = some t → args[j]? = some v → Value.okWide Tryd.prog W .any base t v := hval0
  have hW' := hW
  obtain ⟨p, q, hA0, hV, rfl, hfz, hnd⟩ := hW
  have hA : DataW.TrodAll enc Tryd.prog W 0 (fun _ => true) true Tryd.f3.params.toList args.toList ds p := hA0
  rw [Tryd.params3] at hA hval
  obtain ⟨v0, vs0, d0, ds0, p0, q0, hargs, rfl, rfl, h0, r0⟩ := trodAll_cons hA
  obtain ⟨rfl, rfl, rfl⟩ := trodAll_nil r0
  obtain rfl : args = #[v0] := by cases args; simp_all
  obtain ⟨rfl, rfl⟩ := trodVars_none hV
  obtain ⟨a0, len0, cap0, rfl⟩ := okWide_slice Tryd.underlying22 (hval 0 22 v0 rfl rfl)
  have k0 := h0
  have lt0 : ∀ x ∈ p0, x.block < W.heap.size := by obtain ⟨m, hm⟩ := k0; exact DataW.trod_lt m _ _ _ hm
  obtain ⟨z0, w0⟩ : ∃ zs, IsRow .u8 W a0 len0 cap0 zs := by
    obtain ⟨fuel, hf⟩ := h0
    rcases open_ints Tryd.underlying22 Tryd.underlying5 (by kernel_rfl) hf with ⟨hcs, _⟩ | ⟨x, l, c, zs, hcs, _, hl, hm, hz, _, hcell, hwz⟩
    · simp [Value.cells] at hcs
      obtain ⟨rfl, rfl, rfl⟩ := hcs
      exact ⟨[], .inl ⟨rfl, rfl, rfl, rfl⟩⟩
    · simp [Value.cells] at hcs
      obtain ⟨rfl, rfl, rfl⟩ := hcs
      exact ⟨zs, .inr ⟨_, rfl, hl, hm, by simpa using hz, hcell, hwz⟩⟩
  clear hA0 hval0
  refine (walk a0 len0 cap0 z0 W w0 (tab2 hL)).mono fun e W' ⟨he, bel⟩ => ?_
  subst he
  exact ⟨_, rfl, _, _, _, [], _, [], hW', trodAll_mk1 (shut_bool Tryd.underlying4 _), (trodAll_cons_mk (Below.trod laidOut (by kernel_rfl) (of_decide_eq_true (by kernel_rfl)) k0 bel lt0) trodAll_mk0), rfl, bel.frame _, fun h => by cases h⟩

theorem over : Rows.fnAlarmsRow.holds Tryd.pinned (OpenSpec.ofChange Rows.fnAlarmsSpec) :=
  OpenClaim.holds_of_wide 3 Tryd.f3 rfl rfl rfl rfl rfl rfl rfl ⟨rfl, rfl, rfl, rfl, rfl⟩ rfl rfl rfl rfl rfl (by kernel_rfl) Tryd.func3 (by kernel_rfl)
    (of_decide_eq_true (by kernel_rfl)) (by unfold Func.isWrapper; first | (rw [if_pos (by decide +kernel)]; kernel_rfl) | (rw [if_neg (by decide +kernel)]; exact ⟨rfl, rfl⟩))
    (fun os started H enc _ => lifted os started H enc)

theorem card : Rows.FnAlarmsCardSaid :=
  Claim7.holds_tied_plain_at .later [] _ true _ _
    over (fun _ h => by cases h) (by kernel_rfl) (fun _ h => by cases h) fnAlarms_row_tie rfl ⟨rfl, rfl⟩ (by kernel_rfl) rfl
    (fun f fn hf hfn => by
      obtain rfl : f = 3 := Option.some.inj ((show Tryd.prog.funcNamed Rows.fnAlarmsRow.func = some 3 by kernel_rfl).symm.trans hf) |>.symm
      obtain rfl : fn = Tryd.f3 := (Option.some.inj (Tryd.func3.symm.trans hfn)).symm
      exact ⟨by kernel_rfl, fun j t ht => by
        rw [Tryd.params3] at ht
        have hm : t ∈ [22] := by simpa using Array.mem_of_getElem? ht
        have hall : ([22].all fun u => !Tryd.prog.wantsStandIn u) = true := by kernel_rfl
        exact (show Tryd.prog.wantsStandIn t = false by simpa using List.all_eq_true.1 hall t hm)⟩)
    (by kernel_rfl)

end Go.Proofs.YtinegehejinmiaaDoor.FnAlarms
namespace Go.Proofs.YtinegehejinmiaaDoor
theorem fnAlarms_card_holds : Rows.FnAlarmsCardSaid := FnAlarms.card
#print axioms fnAlarms_card_holds
end Go.Proofs.YtinegehejinmiaaDoor
