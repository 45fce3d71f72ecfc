/-
  PROVED: whatever the code, the law laws.FnMerges returns true and leaves the code as it was: of two drawn alarms what is merged is of the newer one, but for an earlier start, where they touch; merged again, and with itself, it is the same. No condition.
-/
import Derived.Test.YtinegehejinmiaaRows
import Derived.WalkKit
import Derived.ProofKit
import Derived.OpenShut
import Derived.ShutString
import Derived.ChangeOld
import Derived.Below
import Derived.WalkLawsBesides
import Derived.WalkSpells
import Derived.Test.YtinegehejinmiaaDrawB
import Derived.Deep.RegionHeld3
namespace Go.Proofs.Ytinegehejinmiaa.FnMerges
open Go.ChangeShapes Go.WideShapes Go.ChangeAt Go.RowKit
open Go.ChangeMaps (open_string shut_string)
set_option linter.unusedVariables false

open Go.Proofs.Ytinegehejinmiaa.Labs Go.Proofs.Ytinegehejinmiaa.LabS Go.Proofs.Ytinegehejinmiaa.Draw Go.Proofs.Ytinegehejinmiaa.DrawL Go.Proofs.Ytinegehejinmiaa.DrawB Go.Proofs.Ytinegehejinmiaa.LawB Go.Proofs.Ytinegehejinmiaa.Over Go.Proofs.Ytinegehejinmiaa.Blk Go.Proofs.Ytinegehejinmiaa.Alm Go.Proofs.Ytinegehejinmiaa.AlmS Go.Proofs.Ytinegehejinmiaa.AlmM
open Go.Proofs.Ytinegehejinmiaa.DrawA (I64)
open Go.Proofs.Ytinegehejinmiaa.LabT (Held held_reads)

theorem touch_comm (s e s' e' : Int) : touchB s' e' s e = touchB s e s' e' := by unfold touchB; exact Bool.and_comm _ _
theorem least_in {a b : Int} (ha : I64 a) (hb : I64 b) : I64 (leastB a b) := by unfold leastB; split <;> assumption
theorem start_in {s e s' e' : Int} (h : I64 s) (h' : I64 s') : I64 (startB s e s' e') := by
  unfold startB
  split
  · exact least_in h h'
  · exact h'
theorem start_le (s e s' e' : Int) : startB s e s' e' ≤ s' := by
  unfold startB leastB
  split
  · split <;> omega
  · omega
/-- merged again it is the same -/
theorem start_again (s e s' e' : Int) : startB s e (startB s e s' e') e' = startB s e s' e' := by
  unfold startB touchB leastB
  by_cases h1 : s ≤ e' <;> by_cases h2 : s' ≤ e <;> by_cases h3 : s' < s <;> simp [h1, h2, h3] <;> omega
theorem start_self (s e : Int) : startB s e s e = s := by
  unfold startB leastB
  split <;> simp
theorem merged_ok {l l' : List Lab} {s e s' e' : Int} {n n' : ByteArray} (h : alarmB l s e n = true) (h' : alarmB l' s' e' n' = true) : alarmB l' (startB s e s' e') e' n' = true := by
  simp only [alarmB, Bool.and_eq_true, decide_eq_true_eq] at h h' ⊢
  obtain ⟨_, _, a1, a2, a3, _⟩ := h
  obtain ⟨b0, b1, b2, b3, b4, b5⟩ := h'
  have h1 : 0 ≤ startB s e s' e' := by
    unfold startB leastB
    split
    · split <;> omega
    · omega
  have h2 := start_le s e s' e'
  exact ⟨b0, b1, h1, by omega, b4, b5⟩
theorem own_drawn {w w' : World} {M : Nat} {g : Nat} {p : List Lab} {s e s0 e0 : Int} {n n0 : ByteArray} {W : World} (h : Go.Proofs.Ytinegehejinmiaa.LabR.Own w w' M p) (hd : Drawn W g p s0 e0 n0) (hs : I64 s) (he : I64 e) (hn : n.size ≤ 100) : Drawn w' M p s e n := by
  obtain ⟨_, cs, hk, _, hh⟩ := h
  exact ⟨held_reads hk hh, hd.few, hd.small, hs, he, hn⟩

set_option maxRecDepth 100000 in
set_option maxHeartbeats 40000000 in
theorem core (a : Option Addr) (len cap : Nat) (w : World) (hl : len ≤ maxLen) (hb : Bytes w a len w.heap.size) :
    Calls Try.prog 5 #[.slice a len cap] w fun e w' => e = .returned (.bool true) ∧ Below w.heap.size w w' := by
  have HB : Hid (Bytes w a len w.heap.size) := hb
  have HL : Hid (len ≤ maxLen) := hl
  clear hb hl
  by_cases hbig : (1048576 : Int) < (len : Int)
  · have HC : Hid (Calls Try.prog 8 #[.slice a len cap] w fun e w' => e = .returned (.bool true) ∧ w' = w) := (big_any a len cap w HL.out).mono fun e w' h => ⟨h.1.trans (retB (decide_eq_true hbig)), h.2⟩
    go_enter Try.func5, Try.ntmps5
    go_wp2_with fail
    refine HC.out.mono ?_
    rintro e w1 ⟨rfl, rfl⟩
    go_wp2
    go_ret
    exact ⟨rfl, Below.refl _ _⟩
  have HC : Hid (Calls Try.prog 8 #[.slice a len cap] w fun e w' => e = .returned (.bool false) ∧ w' = w) := (big_any a len cap w HL.out).mono fun e w' h => ⟨h.1.trans (retB (decide_eq_false hbig)), h.2⟩
  go_enter Try.func5, Try.ntmps5
  go_wp2_with fail
  refine HC.out.mono ?_
  rintro e wq ⟨rfl, hw⟩
  obtain rfl := hw.symm
  clear HC hw
  have B0 : Hid (Below w.heap.size w w) := Below.refl _ _
  go_wp2_with fail
  refine (drawMerge_any a len cap _ HL.out (bytes_up HB.out B0.out)).mono ?_
  rintro e w1 ⟨⟨g1, c1, p1, s1, e1, n1, g2, c2, p2, s2, e2, n2, rfl, hd1, hd2⟩, hb⟩
  have D1_1 : Hid (Drawn w1 g1 p1 s1 e1 n1) := hd1
  have D2_1 : Hid (Drawn w1 g2 p2 s2 e2 n2) := hd2
  have B1 : Hid (Below w.heap.size w w1) := grow_on B0.out hb
  clear hb hd1 hd2
  go_wp2_with fail
  refine (implMerge_any _ _ _ s1 e1 n1 g2 0 _ p2 s2 e2 n2 _ (D2_1.out.reads.below (Go.Joins.below_alloc2 w1 _ _)) D2_1.out.mid).mono ?_
  rintro e w2 ⟨⟨g5, c5, rfl, hO⟩, hb⟩
  have D5_2 : Hid (Drawn w2 g5 p2 (startB s1 e1 s2 e2) e2 n2) := own_drawn hO D2_1.out (start_in D1_1.out.sb D2_1.out.sb) D2_1.out.eb D2_1.out.note
  have A1_2 : Hid (Blk w2 w1.heap.size #[.slice (some ⟨g1, 0, none⟩) p1.length c1, .int .i64 s1, .int .i64 e1, .string n1] 49) := ((Blk.new _ _ _).alloc _).grow hb
  have A2_2 : Hid (Blk w2 (w1.heap.size + 1) #[.slice (some ⟨g2, 0, none⟩) p2.length c2, .int .i64 s2, .int .i64 e2, .string n2] 49) := (Blk.new_at (by simp)).grow hb
  replace hb := grow_on (Go.Joins.below_alloc2 w1 _ _) hb
  have B2 : Hid (Below w.heap.size w w2) := grow_on B1.out hb
  have D1_2 : Hid (Drawn w2 g1 p1 s1 e1 n1) := D1_1.out.below hb
  have D2_2 : Hid (Drawn w2 g2 p2 s2 e2 n2) := D2_1.out.below hb
  clear hb hO
  go_wp2_with fail
  refine (drawTouch_any a len cap _ HL.out (bytes_up HB.out (grow_on B2.out (Go.Joins.below_alloc1 w2 _)))).mono ?_
  rintro e w3 ⟨⟨g3, c3, p3, s3, e3, n3, g4, c4, p4, s4, e4, n4, rfl, hd3, hd4⟩, hb⟩
  have D3_3 : Hid (Drawn w3 g3 p3 s3 e3 n3) := hd3
  have D4_3 : Hid (Drawn w3 g4 p4 s4 e4 n4) := hd4
  have A5_3 : Hid (Blk w3 w2.heap.size #[.slice (some ⟨g5, 0, none⟩) p2.length c5, .int .i64 (startB s1 e1 s2 e2), .int .i64 e2, .string n2] 49) := (Blk.new _ _ _).grow hb
  replace hb := grow_on (Go.Joins.below_alloc1 w2 _) hb
  have B3 : Hid (Below w.heap.size w w3) := grow_on B2.out hb
  have D1_3 : Hid (Drawn w3 g1 p1 s1 e1 n1) := D1_2.out.below hb
  have D2_3 : Hid (Drawn w3 g2 p2 s2 e2 n2) := D2_2.out.below hb
  have A1_3 : Hid (Blk w3 w1.heap.size #[.slice (some ⟨g1, 0, none⟩) p1.length c1, .int .i64 s1, .int .i64 e1, .string n1] 49) := A1_2.out.grow hb
  have A2_3 : Hid (Blk w3 (w1.heap.size + 1) #[.slice (some ⟨g2, 0, none⟩) p2.length c2, .int .i64 s2, .int .i64 e2, .string n2] 49) := A2_2.out.grow hb
  have D5_3 : Hid (Drawn w3 g5 p2 (startB s1 e1 s2 e2) e2 n2) := D5_2.out.below hb
  clear hb hd3 hd4
  go_wp2
  generalize hz : (w3.alloc (.cells #[.slice (some ⟨g3, 0, none⟩) p3.length c3, .int .i64 s3, .int .i64 e3, .string n3] 49)).alloc (.cells #[.slice (some ⟨g4, 0, none⟩) p4.length c4, .int .i64 s4, .int .i64 e4, .string n4] 49) = z
  have hbz : Below w3.heap.size w3 z := by rw [← hz]; exact Go.Joins.below_alloc2 w3 _ _
  have A3_z : Hid (Blk z w3.heap.size #[.slice (some ⟨g3, 0, none⟩) p3.length c3, .int .i64 s3, .int .i64 e3, .string n3] 49) := by rw [← hz]; exact (Blk.new _ _ _).alloc _
  have A4_z : Hid (Blk z (w3.heap.size + 1) #[.slice (some ⟨g4, 0, none⟩) p4.length c4, .int .i64 s4, .int .i64 e4, .string n4] 49) := by rw [← hz]; exact Blk.new_at (by simp)
  have D1_z : Hid (Drawn z g1 p1 s1 e1 n1) := D1_3.out.below hbz
  have D2_z : Hid (Drawn z g2 p2 s2 e2 n2) := D2_3.out.below hbz
  have A1_z : Hid (Blk z w1.heap.size #[.slice (some ⟨g1, 0, none⟩) p1.length c1, .int .i64 s1, .int .i64 e1, .string n1] 49) := A1_3.out.grow hbz
  have A2_z : Hid (Blk z (w1.heap.size + 1) #[.slice (some ⟨g2, 0, none⟩) p2.length c2, .int .i64 s2, .int .i64 e2, .string n2] 49) := A2_3.out.grow hbz
  have D5_z : Hid (Drawn z g5 p2 (startB s1 e1 s2 e2) e2 n2) := D5_3.out.below hbz
  have A5_z : Hid (Blk z w2.heap.size #[.slice (some ⟨g5, 0, none⟩) p2.length c5, .int .i64 (startB s1 e1 s2 e2), .int .i64 e2, .string n2] 49) := A5_3.out.grow hbz
  have D3_z : Hid (Drawn z g3 p3 s3 e3 n3) := D3_3.out.below hbz
  have D4_z : Hid (Drawn z g4 p4 s4 e4 n4) := D4_3.out.below hbz
  have BZ : Hid (Below w.heap.size w z) := grow_on B3.out hbz
  clear hz hbz
  have kA1 := A1_z.out.lt
  have cA10 : z.cell? ⟨w1.heap.size, 0, none⟩ = some (.slice (some ⟨g1, 0, none⟩) p1.length c1) := A1_z.out.cell 0
  have cA11 : z.cell? ⟨w1.heap.size, 1, none⟩ = some (.int .i64 s1) := A1_z.out.cell 1
  have cA12 : z.cell? ⟨w1.heap.size, 2, none⟩ = some (.int .i64 e1) := A1_z.out.cell 2
  have cA13 : z.cell? ⟨w1.heap.size, 3, none⟩ = some (.string n1) := A1_z.out.cell 3
  have kA2 := A2_z.out.lt
  have cA20 : z.cell? ⟨(w1.heap.size + 1), 0, none⟩ = some (.slice (some ⟨g2, 0, none⟩) p2.length c2) := A2_z.out.cell 0
  have cA21 : z.cell? ⟨(w1.heap.size + 1), 1, none⟩ = some (.int .i64 s2) := A2_z.out.cell 1
  have cA22 : z.cell? ⟨(w1.heap.size + 1), 2, none⟩ = some (.int .i64 e2) := A2_z.out.cell 2
  have cA23 : z.cell? ⟨(w1.heap.size + 1), 3, none⟩ = some (.string n2) := A2_z.out.cell 3
  have kA5 := A5_z.out.lt
  have cA50 : z.cell? ⟨w2.heap.size, 0, none⟩ = some (.slice (some ⟨g5, 0, none⟩) p2.length c5) := A5_z.out.cell 0
  have cA51 : z.cell? ⟨w2.heap.size, 1, none⟩ = some (.int .i64 (startB s1 e1 s2 e2)) := A5_z.out.cell 1
  have cA52 : z.cell? ⟨w2.heap.size, 2, none⟩ = some (.int .i64 e2) := A5_z.out.cell 2
  have cA53 : z.cell? ⟨w2.heap.size, 3, none⟩ = some (.string n2) := A5_z.out.cell 3
  have kA3 := A3_z.out.lt
  have cA30 : z.cell? ⟨w3.heap.size, 0, none⟩ = some (.slice (some ⟨g3, 0, none⟩) p3.length c3) := A3_z.out.cell 0
  have cA31 : z.cell? ⟨w3.heap.size, 1, none⟩ = some (.int .i64 s3) := A3_z.out.cell 1
  have cA32 : z.cell? ⟨w3.heap.size, 2, none⟩ = some (.int .i64 e3) := A3_z.out.cell 2
  have cA33 : z.cell? ⟨w3.heap.size, 3, none⟩ = some (.string n3) := A3_z.out.cell 3
  have kA4 := A4_z.out.lt
  have cA40 : z.cell? ⟨(w3.heap.size + 1), 0, none⟩ = some (.slice (some ⟨g4, 0, none⟩) p4.length c4) := A4_z.out.cell 0
  have cA41 : z.cell? ⟨(w3.heap.size + 1), 1, none⟩ = some (.int .i64 s4) := A4_z.out.cell 1
  have cA42 : z.cell? ⟨(w3.heap.size + 1), 2, none⟩ = some (.int .i64 e4) := A4_z.out.cell 2
  have cA43 : z.cell? ⟨(w3.heap.size + 1), 3, none⟩ = some (.string n4) := A4_z.out.cell 3
  have HS : Hid (∀ w', Below z.heap.size z w' → Below z.heap.size z w' ∧ w'.cell? ⟨w1.heap.size, 0, none⟩ = some (.slice (some ⟨g1, 0, none⟩) p1.length c1) ∧ w'.cell? ⟨w1.heap.size, 1, none⟩ = some (.int .i64 s1) ∧ w'.cell? ⟨w1.heap.size, 2, none⟩ = some (.int .i64 e1) ∧ w'.cell? ⟨w1.heap.size, 3, none⟩ = some (.string n1) ∧ w'.cell? ⟨(w1.heap.size + 1), 0, none⟩ = some (.slice (some ⟨g2, 0, none⟩) p2.length c2) ∧ w'.cell? ⟨(w1.heap.size + 1), 1, none⟩ = some (.int .i64 s2) ∧ w'.cell? ⟨(w1.heap.size + 1), 2, none⟩ = some (.int .i64 e2) ∧ w'.cell? ⟨(w1.heap.size + 1), 3, none⟩ = some (.string n2) ∧ w'.cell? ⟨w2.heap.size, 0, none⟩ = some (.slice (some ⟨g5, 0, none⟩) p2.length c5) ∧ w'.cell? ⟨w2.heap.size, 1, none⟩ = some (.int .i64 (startB s1 e1 s2 e2)) ∧ w'.cell? ⟨w2.heap.size, 2, none⟩ = some (.int .i64 e2) ∧ w'.cell? ⟨w2.heap.size, 3, none⟩ = some (.string n2) ∧ w'.cell? ⟨w3.heap.size, 0, none⟩ = some (.slice (some ⟨g3, 0, none⟩) p3.length c3) ∧ w'.cell? ⟨w3.heap.size, 1, none⟩ = some (.int .i64 s3) ∧ w'.cell? ⟨w3.heap.size, 2, none⟩ = some (.int .i64 e3) ∧ w'.cell? ⟨w3.heap.size, 3, none⟩ = some (.string n3) ∧ w'.cell? ⟨(w3.heap.size + 1), 0, none⟩ = some (.slice (some ⟨g4, 0, none⟩) p4.length c4) ∧ w'.cell? ⟨(w3.heap.size + 1), 1, none⟩ = some (.int .i64 s4) ∧ w'.cell? ⟨(w3.heap.size + 1), 2, none⟩ = some (.int .i64 e4) ∧ w'.cell? ⟨(w3.heap.size + 1), 3, none⟩ = some (.string n4)) := fun w' h => ⟨h, (h.cell kA1).trans cA10, (h.cell kA1).trans cA11, (h.cell kA1).trans cA12, (h.cell kA1).trans cA13, (h.cell kA2).trans cA20, (h.cell kA2).trans cA21, (h.cell kA2).trans cA22, (h.cell kA2).trans cA23, (h.cell kA5).trans cA50, (h.cell kA5).trans cA51, (h.cell kA5).trans cA52, (h.cell kA5).trans cA53, (h.cell kA3).trans cA30, (h.cell kA3).trans cA31, (h.cell kA3).trans cA32, (h.cell kA3).trans cA33, (h.cell kA4).trans cA40, (h.cell kA4).trans cA41, (h.cell kA4).trans cA42, (h.cell kA4).trans cA43⟩
  have kz : Below z.heap.size z z.drew := (Below.refl _ _).drew
  have eS : sameB p2 (startB s1 e1 s2 e2) e2 n2 p2 (startB s1 e1 s2 e2) e2 n2 = true := same_self _ _ _ _
  have tq : (touchB s3 e3 s4 e4 != touchB s3 e3 s4 e4) = false := by simp
  have M1 : Hid (∀ x, Below z.heap.size z x → Calls Try.prog 46 #[.agg #[.slice (some ⟨g1, 0, none⟩) p1.length c1, .int .i64 s1, .int .i64 e1, .string n1], .agg #[.slice (some ⟨g2, 0, none⟩) p2.length c2, .int .i64 s2, .int .i64 e2, .string n2]] x fun r w' => (∃ (M c : Nat), r = .returned (.agg #[.slice (some ⟨M, 0, none⟩) p2.length c, .int .i64 (startB s1 e1 s2 e2), .int .i64 e2, .string n2]) ∧ Drawn w' M p2 (startB s1 e1 s2 e2) e2 n2) ∧ Below x.heap.size x w') := fun x hx => (specMerge_any _ _ _ s1 e1 n1 g2 0 _ p2 s2 e2 n2 _ (D2_z.out.reads.below hx) D2_z.out.mid).mono fun r w' h => ⟨let ⟨M, c, he, hO⟩ := h.1; ⟨M, c, he, own_drawn hO D2_z.out (start_in D1_z.out.sb D2_z.out.sb) D2_z.out.eb D2_z.out.note⟩, h.2⟩
  have T1 : Hid (∀ x, Below z.heap.size z x → Calls Try.prog 47 #[.agg #[.slice (some ⟨g3, 0, none⟩) p3.length c3, .int .i64 s3, .int .i64 e3, .string n3], .agg #[.slice (some ⟨g4, 0, none⟩) p4.length c4, .int .i64 s4, .int .i64 e4, .string n4]] x fun r w' => r = .returned (.bool (touchB s3 e3 s4 e4)) ∧ Below x.heap.size x w') := fun x hx => implTouch_any _ _ s3 e3 s4 e4 n3 n4 _
  have T2 : Hid (∀ x, Below z.heap.size z x → Calls Try.prog 47 #[.agg #[.slice (some ⟨g4, 0, none⟩) p4.length c4, .int .i64 s4, .int .i64 e4, .string n4], .agg #[.slice (some ⟨g3, 0, none⟩) p3.length c3, .int .i64 s3, .int .i64 e3, .string n3]] x fun r w' => r = .returned (.bool (touchB s3 e3 s4 e4)) ∧ Below x.heap.size x w') := fun x hx => (implTouch_any _ _ s4 e4 s3 e3 n4 n3 _).mono fun r w' h => ⟨h.1.trans (retB (touch_comm s3 e3 s4 e4)), h.2⟩
  have T3 : Hid (∀ x, Below z.heap.size z x → Calls Try.prog 48 #[.agg #[.slice (some ⟨g3, 0, none⟩) p3.length c3, .int .i64 s3, .int .i64 e3, .string n3], .agg #[.slice (some ⟨g4, 0, none⟩) p4.length c4, .int .i64 s4, .int .i64 e4, .string n4]] x fun r w' => r = .returned (.bool (touchB s3 e3 s4 e4)) ∧ Below x.heap.size x w') := fun x hx => specTouch_any _ _ s3 e3 s4 e4 n3 n4 _
  go_region_held3 (fun w' => Below z.heap.size z w' ∧ w'.cell? ⟨w1.heap.size, 0, none⟩ = some (.slice (some ⟨g1, 0, none⟩) p1.length c1) ∧ w'.cell? ⟨w1.heap.size, 1, none⟩ = some (.int .i64 s1) ∧ w'.cell? ⟨w1.heap.size, 2, none⟩ = some (.int .i64 e1) ∧ w'.cell? ⟨w1.heap.size, 3, none⟩ = some (.string n1) ∧ w'.cell? ⟨(w1.heap.size + 1), 0, none⟩ = some (.slice (some ⟨g2, 0, none⟩) p2.length c2) ∧ w'.cell? ⟨(w1.heap.size + 1), 1, none⟩ = some (.int .i64 s2) ∧ w'.cell? ⟨(w1.heap.size + 1), 2, none⟩ = some (.int .i64 e2) ∧ w'.cell? ⟨(w1.heap.size + 1), 3, none⟩ = some (.string n2) ∧ w'.cell? ⟨w2.heap.size, 0, none⟩ = some (.slice (some ⟨g5, 0, none⟩) p2.length c5) ∧ w'.cell? ⟨w2.heap.size, 1, none⟩ = some (.int .i64 (startB s1 e1 s2 e2)) ∧ w'.cell? ⟨w2.heap.size, 2, none⟩ = some (.int .i64 e2) ∧ w'.cell? ⟨w2.heap.size, 3, none⟩ = some (.string n2) ∧ w'.cell? ⟨w3.heap.size, 0, none⟩ = some (.slice (some ⟨g3, 0, none⟩) p3.length c3) ∧ w'.cell? ⟨w3.heap.size, 1, none⟩ = some (.int .i64 s3) ∧ w'.cell? ⟨w3.heap.size, 2, none⟩ = some (.int .i64 e3) ∧ w'.cell? ⟨w3.heap.size, 3, none⟩ = some (.string n3) ∧ w'.cell? ⟨(w3.heap.size + 1), 0, none⟩ = some (.slice (some ⟨g4, 0, none⟩) p4.length c4) ∧ w'.cell? ⟨(w3.heap.size + 1), 1, none⟩ = some (.int .i64 s4) ∧ w'.cell? ⟨(w3.heap.size + 1), 2, none⟩ = some (.int .i64 e4) ∧ w'.cell? ⟨(w3.heap.size + 1), 3, none⟩ = some (.string n4)) (first | with_reducible exact HS.out _ kz | with_reducible exact HS.out _ hz | (go_keep; done)) (first | (go_at_call 46; go_split_ands; (with_reducible refine (M1.out _ (by assumption)).mono ?_); rintro r wy ⟨⟨gS, cS, rfl, HSm⟩, hy⟩; (have hz : Below z.heap.size z wy := grow_on (by assumption) hy)) | (go_at_call 47; go_split_ands; (with_reducible refine (T1.out _ (by assumption)).mono ?_); rintro r wy ⟨rfl, hy⟩; (have hz : Below z.heap.size z wy := grow_on (by assumption) hy)) | (go_at_call 47; go_split_ands; (with_reducible refine (T2.out _ (by assumption)).mono ?_); rintro r wy ⟨rfl, hy⟩; (have hz : Below z.heap.size z wy := grow_on (by assumption) hy)) | (go_at_call 48; go_split_ands; (with_reducible refine (T3.out _ (by assumption)).mono ?_); rintro r wy ⟨rfl, hy⟩; (have hz : Below z.heap.size z wy := grow_on (by assumption) hy)) | (go_at_call 45; go_split_ands; refine (implSameA_any _ _ _ _ p2 p2 (startB s1 e1 s2 e2) e2 (startB s1 e1 s2 e2) e2 n2 n2 _ (D5_z.out.reads.below (by assumption)) HSm.reads D2_z.out.len D2_z.out.len).mono ?_; rintro r wy ⟨rfl, hy⟩; (have hz : Below z.heap.size z wy := grow_on (by assumption) hy)))
  have A1_y : Hid (Blk wy w1.heap.size #[.slice (some ⟨g1, 0, none⟩) p1.length c1, .int .i64 s1, .int .i64 e1, .string n1] 49) := A1_z.out.grow hz
  have A2_y : Hid (Blk wy (w1.heap.size + 1) #[.slice (some ⟨g2, 0, none⟩) p2.length c2, .int .i64 s2, .int .i64 e2, .string n2] 49) := A2_z.out.grow hz
  have A5_y : Hid (Blk wy w2.heap.size #[.slice (some ⟨g5, 0, none⟩) p2.length c5, .int .i64 (startB s1 e1 s2 e2), .int .i64 e2, .string n2] 49) := A5_z.out.grow hz
  have D1_y : Hid (Drawn wy g1 p1 s1 e1 n1) := D1_z.out.below hz
  have D2_y : Hid (Drawn wy g2 p2 s2 e2 n2) := D2_z.out.below hz
  have D5_y : Hid (Drawn wy g5 p2 (startB s1 e1 s2 e2) e2 n2) := D5_z.out.below hz
  have BY : Hid (Below w.heap.size w wy) := grow_on BZ.out hz
  clear kA1 cA10 cA11 cA12 cA13 kA2 cA20 cA21 cA22 cA23 kA5 cA50 cA51 cA52 cA53 kA3 cA30 cA31 cA32 cA33 kA4 cA40 cA41 cA42 cA43 HS kz M1 T1 T2 T3 eS tq
  clear hz hy HSm
  clear A1_z A2_z A3_z A4_z A5_z D1_z D2_z D5_z
  obtain ⟨y, hyy⟩ : ∃ y, y = wy := ⟨_, rfl⟩
  subst hyy
  go_wp2
  simp only [List.append_eq, List.cons_append, List.nil_append]
  have kA1 := A1_y.out.lt
  have cA10 : y.cell? ⟨w1.heap.size, 0, none⟩ = some (.slice (some ⟨g1, 0, none⟩) p1.length c1) := A1_y.out.cell 0
  have cA11 : y.cell? ⟨w1.heap.size, 1, none⟩ = some (.int .i64 s1) := A1_y.out.cell 1
  have cA12 : y.cell? ⟨w1.heap.size, 2, none⟩ = some (.int .i64 e1) := A1_y.out.cell 2
  have cA13 : y.cell? ⟨w1.heap.size, 3, none⟩ = some (.string n1) := A1_y.out.cell 3
  have kA2 := A2_y.out.lt
  have cA20 : y.cell? ⟨(w1.heap.size + 1), 0, none⟩ = some (.slice (some ⟨g2, 0, none⟩) p2.length c2) := A2_y.out.cell 0
  have cA21 : y.cell? ⟨(w1.heap.size + 1), 1, none⟩ = some (.int .i64 s2) := A2_y.out.cell 1
  have cA22 : y.cell? ⟨(w1.heap.size + 1), 2, none⟩ = some (.int .i64 e2) := A2_y.out.cell 2
  have cA23 : y.cell? ⟨(w1.heap.size + 1), 3, none⟩ = some (.string n2) := A2_y.out.cell 3
  have kA5 := A5_y.out.lt
  have cA50 : y.cell? ⟨w2.heap.size, 0, none⟩ = some (.slice (some ⟨g5, 0, none⟩) p2.length c5) := A5_y.out.cell 0
  have cA51 : y.cell? ⟨w2.heap.size, 1, none⟩ = some (.int .i64 (startB s1 e1 s2 e2)) := A5_y.out.cell 1
  have cA52 : y.cell? ⟨w2.heap.size, 2, none⟩ = some (.int .i64 e2) := A5_y.out.cell 2
  have cA53 : y.cell? ⟨w2.heap.size, 3, none⟩ = some (.string n2) := A5_y.out.cell 3
  have HS : Hid (∀ w', Below y.heap.size y w' → Below y.heap.size y w' ∧ w'.cell? ⟨w1.heap.size, 0, none⟩ = some (.slice (some ⟨g1, 0, none⟩) p1.length c1) ∧ w'.cell? ⟨w1.heap.size, 1, none⟩ = some (.int .i64 s1) ∧ w'.cell? ⟨w1.heap.size, 2, none⟩ = some (.int .i64 e1) ∧ w'.cell? ⟨w1.heap.size, 3, none⟩ = some (.string n1) ∧ w'.cell? ⟨(w1.heap.size + 1), 0, none⟩ = some (.slice (some ⟨g2, 0, none⟩) p2.length c2) ∧ w'.cell? ⟨(w1.heap.size + 1), 1, none⟩ = some (.int .i64 s2) ∧ w'.cell? ⟨(w1.heap.size + 1), 2, none⟩ = some (.int .i64 e2) ∧ w'.cell? ⟨(w1.heap.size + 1), 3, none⟩ = some (.string n2) ∧ w'.cell? ⟨w2.heap.size, 0, none⟩ = some (.slice (some ⟨g5, 0, none⟩) p2.length c5) ∧ w'.cell? ⟨w2.heap.size, 1, none⟩ = some (.int .i64 (startB s1 e1 s2 e2)) ∧ w'.cell? ⟨w2.heap.size, 2, none⟩ = some (.int .i64 e2) ∧ w'.cell? ⟨w2.heap.size, 3, none⟩ = some (.string n2)) := fun w' h => ⟨h, (h.cell kA1).trans cA10, (h.cell kA1).trans cA11, (h.cell kA1).trans cA12, (h.cell kA1).trans cA13, (h.cell kA2).trans cA20, (h.cell kA2).trans cA21, (h.cell kA2).trans cA22, (h.cell kA2).trans cA23, (h.cell kA5).trans cA50, (h.cell kA5).trans cA51, (h.cell kA5).trans cA52, (h.cell kA5).trans cA53⟩
  have kz : Below y.heap.size y y.drew := (Below.refl _ _).drew
  have b2 : (n2.toList == n2.toList) = true := beqS_yes rfl
  have hle := start_le s1 e1 s2 e2
  have CS : Hid (∀ x, Below y.heap.size y x → Calls Try.prog 18 #[.slice (some ⟨g5, 0, none⟩) p2.length c5, .slice (some ⟨g2, 0, none⟩) p2.length c2] x fun r w' => r = .returned (.bool true) ∧ Below x.heap.size x w') := fun x hx => (calls_drew (implSame_any _ _ _ _ p2 p2 _ (D5_y.out.reads.below hx) (D2_y.out.reads.below hx) D2_y.out.len D2_y.out.len)).mono fun r w' h => ⟨h.1.trans (retB (decide_eq_true rfl)), h.2⟩
  have CT : Hid (∀ x, Below y.heap.size y x → Calls Try.prog 47 #[.agg #[.slice (some ⟨g1, 0, none⟩) p1.length c1, .int .i64 s1, .int .i64 e1, .string n1], .agg #[.slice (some ⟨g2, 0, none⟩) p2.length c2, .int .i64 s2, .int .i64 e2, .string n2]] x fun r w' => r = .returned (.bool (touchB s1 e1 s2 e2)) ∧ Below x.heap.size x w') := fun x hx => implTouch_any _ _ s1 e1 s2 e2 n1 n2 _
  have M2 : Hid (∀ x, Below y.heap.size y x → Calls Try.prog 43 #[.agg #[.slice (some ⟨g1, 0, none⟩) p1.length c1, .int .i64 s1, .int .i64 e1, .string n1], .agg #[.slice (some ⟨g5, 0, none⟩) p2.length c5, .int .i64 (startB s1 e1 s2 e2), .int .i64 e2, .string n2]] x fun r w' => (∃ (M c : Nat), r = .returned (.agg #[.slice (some ⟨M, 0, none⟩) p2.length c, .int .i64 (startB s1 e1 s2 e2), .int .i64 e2, .string n2]) ∧ Drawn w' M p2 (startB s1 e1 s2 e2) e2 n2) ∧ Below x.heap.size x w') := fun x hx => (implMerge_any _ _ _ s1 e1 n1 g5 0 _ p2 (startB s1 e1 s2 e2) e2 n2 _ (D5_y.out.reads.below hx) D2_y.out.mid).mono fun r w' h => ⟨let ⟨M, c, he, hO⟩ := h.1; ⟨M, c, he.trans (by rw [start_again]), own_drawn hO D2_y.out (start_in D1_y.out.sb D2_y.out.sb) D2_y.out.eb D2_y.out.note⟩, h.2⟩
  have M3 : Hid (∀ x, Below y.heap.size y x → Calls Try.prog 43 #[.agg #[.slice (some ⟨g2, 0, none⟩) p2.length c2, .int .i64 s2, .int .i64 e2, .string n2], .agg #[.slice (some ⟨g2, 0, none⟩) p2.length c2, .int .i64 s2, .int .i64 e2, .string n2]] x fun r w' => (∃ (M c : Nat), r = .returned (.agg #[.slice (some ⟨M, 0, none⟩) p2.length c, .int .i64 s2, .int .i64 e2, .string n2]) ∧ Drawn w' M p2 s2 e2 n2) ∧ Below x.heap.size x w') := fun x hx => (implMerge_any _ _ _ s2 e2 n2 g2 0 _ p2 s2 e2 n2 _ (D2_y.out.reads.below hx) D2_y.out.mid).mono fun r w' h => ⟨let ⟨M, c, he, hO⟩ := h.1; ⟨M, c, he.trans (by rw [start_self]), own_drawn hO D2_y.out D2_y.out.sb D2_y.out.eb D2_y.out.note⟩, h.2⟩
  have S1 : Hid (∀ (x : World) (M k : Nat), Below y.heap.size y x → Drawn x M p2 (startB s1 e1 s2 e2) e2 n2 → Calls Try.prog 45 #[.agg #[.slice (some ⟨M, 0, none⟩) p2.length k, .int .i64 (startB s1 e1 s2 e2), .int .i64 e2, .string n2], .agg #[.slice (some ⟨g5, 0, none⟩) p2.length c5, .int .i64 (startB s1 e1 s2 e2), .int .i64 e2, .string n2]] x fun r w' => r = .returned (.bool true) ∧ Below x.heap.size x w') := fun x M k hx hd => (implSameA_any _ _ _ _ p2 p2 (startB s1 e1 s2 e2) e2 (startB s1 e1 s2 e2) e2 n2 n2 _ hd.reads (D5_y.out.reads.below hx) D2_y.out.len D2_y.out.len).mono fun r w' h => ⟨h.1.trans (retB (same_self _ _ _ _)), h.2⟩
  have S2 : Hid (∀ (x : World) (M k : Nat), Below y.heap.size y x → Drawn x M p2 s2 e2 n2 → Calls Try.prog 45 #[.agg #[.slice (some ⟨M, 0, none⟩) p2.length k, .int .i64 s2, .int .i64 e2, .string n2], .agg #[.slice (some ⟨g2, 0, none⟩) p2.length c2, .int .i64 s2, .int .i64 e2, .string n2]] x fun r w' => r = .returned (.bool true) ∧ Below x.heap.size x w') := fun x M k hx hd => (implSameA_any _ _ _ _ p2 p2 s2 e2 s2 e2 n2 n2 _ hd.reads (D2_y.out.reads.below hx) D2_y.out.len D2_y.out.len).mono fun r w' h => ⟨h.1.trans (retB (same_self _ _ _ _)), h.2⟩
  have OA : Hid (∀ x, Below y.heap.size y x → Calls Try.prog 49 #[.agg #[.slice (some ⟨g1, 0, none⟩) p1.length c1, .int .i64 s1, .int .i64 e1, .string n1]] x fun r w' => r = .returned (.bool (alarmB p1 s1 e1 n1)) ∧ Below x.heap.size x w') := fun x hx => implAlarm_any _ _ p1 s1 e1 n1 _ (D1_y.out.below hx).al
  have OB : Hid (∀ x, Below y.heap.size y x → Calls Try.prog 49 #[.agg #[.slice (some ⟨g2, 0, none⟩) p2.length c2, .int .i64 s2, .int .i64 e2, .string n2]] x fun r w' => r = .returned (.bool (alarmB p2 s2 e2 n2)) ∧ Below x.heap.size x w') := fun x hx => implAlarm_any _ _ p2 s2 e2 n2 _ (D2_y.out.below hx).al
  have OM : Hid (∀ x, Below y.heap.size y x → Calls Try.prog 49 #[.agg #[.slice (some ⟨g5, 0, none⟩) p2.length c5, .int .i64 (startB s1 e1 s2 e2), .int .i64 e2, .string n2]] x fun r w' => r = .returned (.bool (alarmB p2 (startB s1 e1 s2 e2) e2 n2)) ∧ Below x.heap.size x w') := fun x hx => implAlarm_any _ _ p2 (startB s1 e1 s2 e2) e2 n2 _ (D5_y.out.below hx).al
  have HOK : Hid (alarmB p1 s1 e1 n1 = true → alarmB p2 s2 e2 n2 = true → alarmB p2 (startB s1 e1 s2 e2) e2 n2 = true) := merged_ok
  have HST : Hid (touchB s1 e1 s2 e2 = false → (startB s1 e1 s2 e2) = s2) := start_n
  have hle2 : (startB s1 e1 s2 e2) ≤ s2 := hle
  clear hle
  generalize hst : startB s1 e1 s2 e2 = stt at *
  clear hst
  cases ht : touchB s1 e1 s2 e2 with
  | false =>
    have heq : s2 = stt := (HST.out ht).symm
    rw [ht] at CT
    clear ht HST
    subst heq
    cases ha : alarmB p1 s1 e1 n1 with
    | false =>
      rw [ha] at OA
      clear ha HOK
      refine wp_region_held_drew (S := fun w' => Below y.heap.size y w' ∧ w'.cell? ⟨w1.heap.size, 0, none⟩ = some (.slice (some ⟨g1, 0, none⟩) p1.length c1) ∧ w'.cell? ⟨w1.heap.size, 1, none⟩ = some (.int .i64 s1) ∧ w'.cell? ⟨w1.heap.size, 2, none⟩ = some (.int .i64 e1) ∧ w'.cell? ⟨w1.heap.size, 3, none⟩ = some (.string n1) ∧ w'.cell? ⟨(w1.heap.size + 1), 0, none⟩ = some (.slice (some ⟨g2, 0, none⟩) p2.length c2) ∧ w'.cell? ⟨(w1.heap.size + 1), 1, none⟩ = some (.int .i64 s2) ∧ w'.cell? ⟨(w1.heap.size + 1), 2, none⟩ = some (.int .i64 e2) ∧ w'.cell? ⟨(w1.heap.size + 1), 3, none⟩ = some (.string n2) ∧ w'.cell? ⟨w2.heap.size, 0, none⟩ = some (.slice (some ⟨g5, 0, none⟩) p2.length c5) ∧ w'.cell? ⟨w2.heap.size, 1, none⟩ = some (.int .i64 s2) ∧ w'.cell? ⟨w2.heap.size, 2, none⟩ = some (.int .i64 e2) ∧ w'.cell? ⟨w2.heap.size, 3, none⟩ = some (.string n2)) (by kernel_rfl) (HS.out _ kz) (fun hHeld => ?_)
      refine wpAnyH_take (i := 0) (oi := { dst := some 47, op := Op.fieldAddr 49 (Operand.tmp 5) 2, type := 0, pos := "laws.go:257", after := #[], guard := none }) (v := ?vB0) rfl (by kernel_rfl) (by kernel_rfl) (by kernel_rfl) (fun _ _ _ h => h) (Or.inl ⟨by rfl, ?hyB0⟩) hHeld ?_
      case hyB0 => (intro w hSw; (try dsimp only at hSw); go_simp <;> with_reducible rfl)
      try simp only [Act.put, List.setIfInBounds_toArray, List.set_cons_zero, List.set_cons_succ]
      refine wpAnyH_take (i := 1) (oi := { dst := some 48, op := Op.load 3 (Operand.tmp 47), type := 3, pos := "laws.go:257", after := #[{ on := 0, ground := Ground.data }], guard := none }) (v := ?vB1) rfl (by kernel_rfl) (by kernel_rfl) (by kernel_rfl) (fun _ _ _ h => h) (Or.inl ⟨by rfl, ?hyB1⟩) hHeld ?_
      case hyB1 => (intro w hSw; (try dsimp only at hSw); go_simp <;> with_reducible rfl)
      try simp only [Act.put, List.setIfInBounds_toArray, List.set_cons_zero, List.set_cons_succ]
      refine wpAnyH_take (i := 2) (oi := { dst := some 49, op := Op.fieldAddr 49 (Operand.tmp 4) 2, type := 0, pos := "laws.go:257", after := #[], guard := none }) (v := ?vB2) rfl (by kernel_rfl) (by kernel_rfl) (by kernel_rfl) (fun _ _ _ h => h) (Or.inl ⟨by rfl, ?hyB2⟩) hHeld ?_
      case hyB2 => (intro w hSw; (try dsimp only at hSw); go_simp <;> with_reducible rfl)
      try simp only [Act.put, List.setIfInBounds_toArray, List.set_cons_zero, List.set_cons_succ]
      refine wpAnyH_take (i := 3) (oi := { dst := some 50, op := Op.load 3 (Operand.tmp 49), type := 3, pos := "laws.go:257", after := #[{ on := 2, ground := Ground.data }], guard := none }) (v := ?vB3) rfl (by kernel_rfl) (by kernel_rfl) (by kernel_rfl) (fun _ _ _ h => h) (Or.inl ⟨by rfl, ?hyB3⟩) hHeld ?_
      case hyB3 => (intro w hSw; (try dsimp only at hSw); go_simp <;> with_reducible rfl)
      try simp only [Act.put, List.setIfInBounds_toArray, List.set_cons_zero, List.set_cons_succ]
      refine wpAnyH_take (i := 4) (oi := { dst := some 51, op := Op.binOp BinOp.eql 3 (Operand.tmp 48) (Operand.tmp 50) 3, type := 4, pos := "laws.go:257", after := #[{ on := 1, ground := Ground.data }, { on := 3, ground := Ground.data }], guard := none }) (v := ?vB4) rfl (by kernel_rfl) (by kernel_rfl) (by kernel_rfl) (fun _ _ _ h => h) (Or.inl ⟨by rfl, ?hyB4⟩) hHeld ?_
      case hyB4 => (intro w hSw; (try dsimp only at hSw); go_simp <;> with_reducible rfl)
      try simp only [Act.put, List.setIfInBounds_toArray, List.set_cons_zero, List.set_cons_succ]
      refine wpAnyH_take (i := 5) (oi := { dst := some 52, op := Op.move (Operand.tmp 51), type := 4, pos := "laws.go:257", after := #[{ on := 4, ground := Ground.data }], guard := none }) (v := ?vB5) rfl (by kernel_rfl) (by kernel_rfl) (by kernel_rfl) (fun _ _ _ h => h) (Or.inl ⟨by rfl, ?hyB5⟩) hHeld ?_
      case hyB5 => (intro w hSw; (try dsimp only at hSw); go_simp <;> with_reducible rfl)
      try simp only [Act.put, List.setIfInBounds_toArray, List.set_cons_zero, List.set_cons_succ]
      refine wpAnyH_take (i := 6) (oi := { dst := some 53, op := Op.fieldAddr 49 (Operand.tmp 5) 3, type := 0, pos := "laws.go:257", after := #[{ on := 5, ground := Ground.guard }], guard := some (5, true) }) (v := ?vB6) rfl (by kernel_rfl) (by kernel_rfl) (by kernel_rfl) (fun _ _ _ h => h) (Or.inl ⟨by rfl, ?hyB6⟩) hHeld ?_
      case hyB6 => (intro w hSw; (try dsimp only at hSw); go_simp <;> with_reducible rfl)
      try simp only [Act.put, List.setIfInBounds_toArray, List.set_cons_zero, List.set_cons_succ]
      refine wpAnyH_take (i := 7) (oi := { dst := some 54, op := Op.load 9 (Operand.tmp 53), type := 9, pos := "laws.go:257", after := #[{ on := 6, ground := Ground.data }, { on := 5, ground := Ground.guard }], guard := some (5, true) }) (v := ?vB7) rfl (by kernel_rfl) (by kernel_rfl) (by kernel_rfl) (fun _ _ _ h => h) (Or.inl ⟨by rfl, ?hyB7⟩) hHeld ?_
      case hyB7 => (intro w hSw; (try dsimp only at hSw); go_simp <;> with_reducible rfl)
      try simp only [Act.put, List.setIfInBounds_toArray, List.set_cons_zero, List.set_cons_succ]
      refine wpAnyH_take (i := 8) (oi := { dst := some 55, op := Op.fieldAddr 49 (Operand.tmp 4) 3, type := 0, pos := "laws.go:257", after := #[{ on := 5, ground := Ground.guard }], guard := some (5, true) }) (v := ?vB8) rfl (by kernel_rfl) (by kernel_rfl) (by kernel_rfl) (fun _ _ _ h => h) (Or.inl ⟨by rfl, ?hyB8⟩) hHeld ?_
      case hyB8 => (intro w hSw; (try dsimp only at hSw); go_simp <;> with_reducible rfl)
      try simp only [Act.put, List.setIfInBounds_toArray, List.set_cons_zero, List.set_cons_succ]
      refine wpAnyH_take (i := 9) (oi := { dst := some 56, op := Op.load 9 (Operand.tmp 55), type := 9, pos := "laws.go:257", after := #[{ on := 8, ground := Ground.data }, { on := 5, ground := Ground.guard }], guard := some (5, true) }) (v := ?vB9) rfl (by kernel_rfl) (by kernel_rfl) (by kernel_rfl) (fun _ _ _ h => h) (Or.inl ⟨by rfl, ?hyB9⟩) hHeld ?_
      case hyB9 => (intro w hSw; (try dsimp only at hSw); go_simp <;> with_reducible rfl)
      try simp only [Act.put, List.setIfInBounds_toArray, List.set_cons_zero, List.set_cons_succ]
      refine wpAnyH_take (i := 10) (oi := { dst := some 57, op := Op.binOp BinOp.eql 9 (Operand.tmp 54) (Operand.tmp 56) 9, type := 4, pos := "laws.go:257", after := #[{ on := 7, ground := Ground.data }, { on := 9, ground := Ground.data }, { on := 5, ground := Ground.guard }], guard := some (5, true) }) (v := ?vB10) rfl (by kernel_rfl) (by kernel_rfl) (by kernel_rfl) (fun _ _ _ h => h) (Or.inl ⟨by rfl, ?hyB10⟩) hHeld ?_
      case hyB10 => (intro w hSw; (try dsimp only at hSw); go_simp <;> with_reducible rfl)
      try simp only [Act.put, List.setIfInBounds_toArray, List.set_cons_zero, List.set_cons_succ]
      refine wpAnyH_take (i := 11) (oi := { dst := some 58, op := Op.pick (Operand.tmp 52) (Operand.tmp 57) (Operand.const (Value.bool false)), type := 4, pos := "laws.go:257", after := #[{ on := 5, ground := Ground.data }, { on := 10, ground := Ground.data }], guard := none }) (v := ?vB11) rfl (by kernel_rfl) (by kernel_rfl) (by kernel_rfl) (fun _ _ _ h => h) (Or.inl ⟨by rfl, ?hyB11⟩) hHeld ?_
      case hyB11 => (intro w hSw; (try dsimp only at hSw); go_simp <;> with_reducible rfl)
      try simp only [Act.put, List.setIfInBounds_toArray, List.set_cons_zero, List.set_cons_succ]
      refine wpAnyH_take (i := 12) (oi := { dst := some 59, op := Op.move (Operand.tmp 58), type := 4, pos := "laws.go:257", after := #[{ on := 11, ground := Ground.data }, { on := 5, ground := Ground.chain }], guard := none }) (v := ?vB12) rfl (by kernel_rfl) (by kernel_rfl) (by kernel_rfl) (fun _ _ _ h => h) (Or.inl ⟨by rfl, ?hyB12⟩) hHeld ?_
      case hyB12 => (intro w hSw; (try dsimp only at hSw); go_simp <;> with_reducible rfl)
      try simp only [Act.put, List.setIfInBounds_toArray, List.set_cons_zero, List.set_cons_succ]
      refine wpAnyH_take (i := 13) (oi := { dst := some 60, op := Op.fieldAddr 49 (Operand.tmp 5) 0, type := 0, pos := "laws.go:257", after := #[{ on := 12, ground := Ground.guard }], guard := some (12, true) }) (v := ?vB13) rfl (by kernel_rfl) (by kernel_rfl) (by kernel_rfl) (fun _ _ _ h => h) (Or.inl ⟨by rfl, ?hyB13⟩) hHeld ?_
      case hyB13 => (intro w hSw; (try dsimp only at hSw); go_simp <;> with_reducible rfl)
      try simp only [Act.put, List.setIfInBounds_toArray, List.set_cons_zero, List.set_cons_succ]
      refine wpAnyH_take (i := 14) (oi := { dst := some 61, op := Op.load 24 (Operand.tmp 60), type := 24, pos := "laws.go:257", after := #[{ on := 13, ground := Ground.data }, { on := 12, ground := Ground.guard }], guard := some (12, true) }) (v := ?vB14) rfl (by kernel_rfl) (by kernel_rfl) (by kernel_rfl) (fun _ _ _ h => h) (Or.inl ⟨by rfl, ?hyB14⟩) hHeld ?_
      case hyB14 => (intro w hSw; (try dsimp only at hSw); go_simp <;> with_reducible rfl)
      try simp only [Act.put, List.setIfInBounds_toArray, List.set_cons_zero, List.set_cons_succ]
      refine wpAnyH_take (i := 15) (oi := { dst := some 62, op := Op.fieldAddr 49 (Operand.tmp 4) 0, type := 0, pos := "laws.go:257", after := #[{ on := 12, ground := Ground.guard }], guard := some (12, true) }) (v := ?vB15) rfl (by kernel_rfl) (by kernel_rfl) (by kernel_rfl) (fun _ _ _ h => h) (Or.inl ⟨by rfl, ?hyB15⟩) hHeld ?_
      case hyB15 => (intro w hSw; (try dsimp only at hSw); go_simp <;> with_reducible rfl)
      try simp only [Act.put, List.setIfInBounds_toArray, List.set_cons_zero, List.set_cons_succ]
      refine wpAnyH_take (i := 16) (oi := { dst := some 63, op := Op.load 24 (Operand.tmp 62), type := 24, pos := "laws.go:257", after := #[{ on := 15, ground := Ground.data }, { on := 12, ground := Ground.guard }], guard := some (12, true) }) (v := ?vB16) rfl (by kernel_rfl) (by kernel_rfl) (by kernel_rfl) (fun _ _ _ h => h) (Or.inl ⟨by rfl, ?hyB16⟩) hHeld ?_
      case hyB16 => (intro w hSw; (try dsimp only at hSw); go_simp <;> with_reducible rfl)
      try simp only [Act.put, List.setIfInBounds_toArray, List.set_cons_zero, List.set_cons_succ]
      refine wpAnyH_ready (rs := [17]) (by kernel_rfl) (by simp) ?_
      refine AllReadyH.cons (o := { dst := some 64, op := Op.call { callee := Callee.value (Operand.func 18), args := #[Operand.tmp 61, Operand.tmp 63], argTypes := #[24, 24] }, type := 4, pos := "laws.go:257", after := #[{ on := 14, ground := Ground.data }, { on := 16, ground := Ground.data }, { on := 12, ground := Ground.chain }, { on := 12, ground := Ground.guard }], guard := some (12, true) }) rfl (fun K hK => ?_) AllReadyH.nil
      go_simp
      refine (CS.out _ hHeld.1).mono ?_
      rintro r wy ⟨rfl, hy⟩
      have hz : Below y.heap.size y wy := grow_on hHeld.1 hy
      clear hHeld hy
      refine hK.out _ _ (HS.out _ hz) (fun hHeld => ?_)
      clear hK K hz
      try simp only [Act.put, List.setIfInBounds_toArray, List.set_cons_zero, List.set_cons_succ]
      refine wpAnyH_take (i := 18) (oi := { dst := some 65, op := Op.pick (Operand.tmp 59) (Operand.tmp 64) (Operand.const (Value.bool false)), type := 4, pos := "laws.go:257", after := #[{ on := 12, ground := Ground.data }, { on := 17, ground := Ground.data }], guard := none }) (v := ?vB18) rfl (by kernel_rfl) (by kernel_rfl) (by kernel_rfl) (fun _ _ _ h => h) (Or.inl ⟨by rfl, ?hyB18⟩) hHeld ?_
      case hyB18 => (intro w hSw; (try dsimp only at hSw); go_simp <;> with_reducible rfl)
      try simp only [Act.put, List.setIfInBounds_toArray, List.set_cons_zero, List.set_cons_succ]
      refine wpAnyH_take (i := 19) (oi := { dst := some 66, op := Op.move (Operand.tmp 65), type := 4, pos := "laws.go:257", after := #[{ on := 18, ground := Ground.data }, { on := 17, ground := Ground.chain }], guard := none }) (v := ?vB19) rfl (by kernel_rfl) (by kernel_rfl) (by kernel_rfl) (fun _ _ _ h => h) (Or.inl ⟨by rfl, ?hyB19⟩) hHeld ?_
      case hyB19 => (intro w hSw; (try dsimp only at hSw); go_simp <;> with_reducible rfl)
      try simp only [Act.put, List.setIfInBounds_toArray, List.set_cons_zero, List.set_cons_succ]
      refine wpAnyH_take (i := 20) (oi := { dst := some 67, op := Op.fieldAddr 49 (Operand.tmp 5) 1, type := 0, pos := "laws.go:257", after := #[{ on := 19, ground := Ground.guard }], guard := some (19, true) }) (v := ?vB20) rfl (by kernel_rfl) (by kernel_rfl) (by kernel_rfl) (fun _ _ _ h => h) (Or.inl ⟨by rfl, ?hyB20⟩) hHeld ?_
      case hyB20 => (intro w hSw; (try dsimp only at hSw); go_simp <;> with_reducible rfl)
      try simp only [Act.put, List.setIfInBounds_toArray, List.set_cons_zero, List.set_cons_succ]
      refine wpAnyH_take (i := 21) (oi := { dst := some 68, op := Op.load 3 (Operand.tmp 67), type := 3, pos := "laws.go:257", after := #[{ on := 20, ground := Ground.data }, { on := 19, ground := Ground.guard }], guard := some (19, true) }) (v := ?vB21) rfl (by kernel_rfl) (by kernel_rfl) (by kernel_rfl) (fun _ _ _ h => h) (Or.inl ⟨by rfl, ?hyB21⟩) hHeld ?_
      case hyB21 => (intro w hSw; (try dsimp only at hSw); go_simp <;> with_reducible rfl)
      try simp only [Act.put, List.setIfInBounds_toArray, List.set_cons_zero, List.set_cons_succ]
      refine wpAnyH_take (i := 22) (oi := { dst := some 69, op := Op.fieldAddr 49 (Operand.tmp 4) 1, type := 0, pos := "laws.go:257", after := #[{ on := 19, ground := Ground.guard }], guard := some (19, true) }) (v := ?vB22) rfl (by kernel_rfl) (by kernel_rfl) (by kernel_rfl) (fun _ _ _ h => h) (Or.inl ⟨by rfl, ?hyB22⟩) hHeld ?_
      case hyB22 => (intro w hSw; (try dsimp only at hSw); go_simp <;> with_reducible rfl)
      try simp only [Act.put, List.setIfInBounds_toArray, List.set_cons_zero, List.set_cons_succ]
      refine wpAnyH_take (i := 23) (oi := { dst := some 70, op := Op.load 3 (Operand.tmp 69), type := 3, pos := "laws.go:257", after := #[{ on := 22, ground := Ground.data }, { on := 19, ground := Ground.guard }], guard := some (19, true) }) (v := ?vB23) rfl (by kernel_rfl) (by kernel_rfl) (by kernel_rfl) (fun _ _ _ h => h) (Or.inl ⟨by rfl, ?hyB23⟩) hHeld ?_
      case hyB23 => (intro w hSw; (try dsimp only at hSw); go_simp <;> with_reducible rfl)
      try simp only [Act.put, List.setIfInBounds_toArray, List.set_cons_zero, List.set_cons_succ]
      refine wpAnyH_take (i := 24) (oi := { dst := some 71, op := Op.binOp BinOp.leq 3 (Operand.tmp 68) (Operand.tmp 70) 3, type := 4, pos := "laws.go:257", after := #[{ on := 21, ground := Ground.data }, { on := 23, ground := Ground.data }, { on := 19, ground := Ground.guard }], guard := some (19, true) }) (v := ?vB24) rfl (by kernel_rfl) (by kernel_rfl) (by kernel_rfl) (fun _ _ _ h => h) (Or.inl ⟨by rfl, ?hyB24⟩) hHeld ?_
      case hyB24 => (intro w hSw; (try dsimp only at hSw); go_simp <;> with_reducible rfl)
      try simp only [Act.put, List.setIfInBounds_toArray, List.set_cons_zero, List.set_cons_succ]
      refine wpAnyH_take (i := 25) (oi := { dst := some 72, op := Op.pick (Operand.tmp 66) (Operand.tmp 71) (Operand.const (Value.bool false)), type := 4, pos := "laws.go:257", after := #[{ on := 19, ground := Ground.data }, { on := 24, ground := Ground.data }], guard := none }) (v := ?vB25) rfl (by kernel_rfl) (by kernel_rfl) (by kernel_rfl) (fun _ _ _ h => h) (Or.inl ⟨by rfl, ?hyB25⟩) hHeld ?_
      case hyB25 => (intro w hSw; (try dsimp only at hSw); go_simp <;> with_reducible rfl)
      try simp only [Act.put, List.setIfInBounds_toArray, List.set_cons_zero, List.set_cons_succ]
      refine wpAnyH_take (i := 26) (oi := { dst := some 73, op := Op.move (Operand.tmp 72), type := 4, pos := "laws.go:257", after := #[{ on := 25, ground := Ground.data }, { on := 19, ground := Ground.chain }], guard := none }) (v := ?vB26) rfl (by kernel_rfl) (by kernel_rfl) (by kernel_rfl) (fun _ _ _ h => h) (Or.inl ⟨by rfl, ?hyB26⟩) hHeld ?_
      case hyB26 => (intro w hSw; (try dsimp only at hSw); go_simp <;> with_reducible rfl)
      try simp only [Act.put, List.setIfInBounds_toArray, List.set_cons_zero, List.set_cons_succ]
      refine wpAnyH_take (i := 27) (oi := { dst := some 74, op := Op.load 49 (Operand.tmp 3), type := 49, pos := "laws.go:257", after := #[{ on := 26, ground := Ground.guard }], guard := some (26, true) }) (v := ?vB27) rfl (by kernel_rfl) (by kernel_rfl) (by kernel_rfl) (fun _ _ _ h => h) (Or.inl ⟨by rfl, ?hyB27⟩) hHeld ?_
      case hyB27 => (intro w hSw; (try dsimp only at hSw); go_simp <;> with_reducible rfl)
      try simp only [Act.put, List.setIfInBounds_toArray, List.set_cons_zero, List.set_cons_succ]
      refine wpAnyH_take (i := 28) (oi := { dst := some 75, op := Op.load 49 (Operand.tmp 4), type := 49, pos := "laws.go:257", after := #[{ on := 26, ground := Ground.guard }], guard := some (26, true) }) (v := ?vB28) rfl (by kernel_rfl) (by kernel_rfl) (by kernel_rfl) (fun _ _ _ h => h) (Or.inl ⟨by rfl, ?hyB28⟩) hHeld ?_
      case hyB28 => (intro w hSw; (try dsimp only at hSw); go_simp <;> with_reducible rfl)
      try simp only [Act.put, List.setIfInBounds_toArray, List.set_cons_zero, List.set_cons_succ]
      refine wpAnyH_ready (rs := [29]) (by kernel_rfl) (by simp) ?_
      refine AllReadyH.cons (o := { dst := some 76, op := Op.call { callee := Callee.value (Operand.func 47), args := #[Operand.tmp 74, Operand.tmp 75], argTypes := #[49, 49] }, type := 4, pos := "laws.go:257", after := #[{ on := 27, ground := Ground.data }, { on := 28, ground := Ground.data }, { on := 26, ground := Ground.chain }, { on := 26, ground := Ground.guard }], guard := some (26, true) }) rfl (fun K hK => ?_) AllReadyH.nil
      go_simp
      refine (CT.out _ hHeld.1).mono ?_
      rintro r wy ⟨rfl, hy⟩
      have hz : Below y.heap.size y wy := grow_on hHeld.1 hy
      clear hHeld hy
      refine hK.out _ _ (HS.out _ hz) (fun hHeld => ?_)
      clear hK K hz
      try simp only [Act.put, List.setIfInBounds_toArray, List.set_cons_zero, List.set_cons_succ]
      refine wpAnyH_take (i := 30) (oi := { dst := some 77, op := Op.move (Operand.tmp 76), type := 4, pos := "laws.go:257", after := #[{ on := 29, ground := Ground.data }, { on := 29, ground := Ground.chain }, { on := 26, ground := Ground.guard }], guard := some (26, true) }) (v := ?vB30) rfl (by kernel_rfl) (by kernel_rfl) (by kernel_rfl) (fun _ _ _ h => h) (Or.inl ⟨by rfl, ?hyB30⟩) hHeld ?_
      case hyB30 => (intro w hSw; (try dsimp only at hSw); go_simp <;> with_reducible rfl)
      try simp only [Act.put, List.setIfInBounds_toArray, List.set_cons_zero, List.set_cons_succ]
      refine wpAnyH_take (i := 31) (oi := { dst := some 78, op := Op.fieldAddr 49 (Operand.tmp 5) 1, type := 0, pos := "laws.go:257", after := #[{ on := 30, ground := Ground.guard }], guard := some (30, false) }) (v := ?vB31) rfl (by kernel_rfl) (by kernel_rfl) (by kernel_rfl) (fun _ _ _ h => h) (Or.inl ⟨by rfl, ?hyB31⟩) hHeld ?_
      case hyB31 => (intro w hSw; (try dsimp only at hSw); go_simp <;> with_reducible rfl)
      try simp only [Act.put, List.setIfInBounds_toArray, List.set_cons_zero, List.set_cons_succ]
      refine wpAnyH_take (i := 32) (oi := { dst := some 79, op := Op.load 3 (Operand.tmp 78), type := 3, pos := "laws.go:257", after := #[{ on := 31, ground := Ground.data }, { on := 30, ground := Ground.guard }], guard := some (30, false) }) (v := ?vB32) rfl (by kernel_rfl) (by kernel_rfl) (by kernel_rfl) (fun _ _ _ h => h) (Or.inl ⟨by rfl, ?hyB32⟩) hHeld ?_
      case hyB32 => (intro w hSw; (try dsimp only at hSw); go_simp <;> with_reducible rfl)
      try simp only [Act.put, List.setIfInBounds_toArray, List.set_cons_zero, List.set_cons_succ]
      refine wpAnyH_take (i := 33) (oi := { dst := some 80, op := Op.fieldAddr 49 (Operand.tmp 4) 1, type := 0, pos := "laws.go:257", after := #[{ on := 30, ground := Ground.guard }], guard := some (30, false) }) (v := ?vB33) rfl (by kernel_rfl) (by kernel_rfl) (by kernel_rfl) (fun _ _ _ h => h) (Or.inl ⟨by rfl, ?hyB33⟩) hHeld ?_
      case hyB33 => (intro w hSw; (try dsimp only at hSw); go_simp <;> with_reducible rfl)
      try simp only [Act.put, List.setIfInBounds_toArray, List.set_cons_zero, List.set_cons_succ]
      refine wpAnyH_take (i := 34) (oi := { dst := some 81, op := Op.load 3 (Operand.tmp 80), type := 3, pos := "laws.go:257", after := #[{ on := 33, ground := Ground.data }, { on := 30, ground := Ground.guard }], guard := some (30, false) }) (v := ?vB34) rfl (by kernel_rfl) (by kernel_rfl) (by kernel_rfl) (fun _ _ _ h => h) (Or.inl ⟨by rfl, ?hyB34⟩) hHeld ?_
      case hyB34 => (intro w hSw; (try dsimp only at hSw); go_simp <;> with_reducible rfl)
      try simp only [Act.put, List.setIfInBounds_toArray, List.set_cons_zero, List.set_cons_succ]
      refine wpAnyH_take (i := 35) (oi := { dst := some 82, op := Op.binOp BinOp.eql 3 (Operand.tmp 79) (Operand.tmp 81) 3, type := 4, pos := "laws.go:257", after := #[{ on := 32, ground := Ground.data }, { on := 34, ground := Ground.data }, { on := 30, ground := Ground.guard }], guard := some (30, false) }) (v := ?vB35) rfl (by kernel_rfl) (by kernel_rfl) (by kernel_rfl) (fun _ _ _ h => h) (Or.inl ⟨by rfl, ?hyB35⟩) hHeld ?_
      case hyB35 => (intro w hSw; (try dsimp only at hSw); go_simp <;> with_reducible rfl)
      try simp only [Act.put, List.setIfInBounds_toArray, List.set_cons_zero, List.set_cons_succ]
      refine wpAnyH_take (i := 36) (oi := { dst := some 83, op := Op.pick (Operand.tmp 77) (Operand.const (Value.bool true)) (Operand.tmp 82), type := 4, pos := "laws.go:257", after := #[{ on := 30, ground := Ground.data }, { on := 35, ground := Ground.data }, { on := 26, ground := Ground.guard }], guard := some (26, true) }) (v := ?vB36) rfl (by kernel_rfl) (by kernel_rfl) (by kernel_rfl) (fun _ _ _ h => h) (Or.inl ⟨by rfl, ?hyB36⟩) hHeld ?_
      case hyB36 => (intro w hSw; (try dsimp only at hSw); go_simp <;> with_reducible rfl)
      try simp only [Act.put, List.setIfInBounds_toArray, List.set_cons_zero, List.set_cons_succ]
      refine wpAnyH_take (i := 37) (oi := { dst := some 84, op := Op.pick (Operand.tmp 73) (Operand.tmp 83) (Operand.const (Value.bool false)), type := 4, pos := "laws.go:257", after := #[{ on := 26, ground := Ground.data }, { on := 36, ground := Ground.data }], guard := none }) (v := ?vB37) rfl (by kernel_rfl) (by kernel_rfl) (by kernel_rfl) (fun _ _ _ h => h) (Or.inl ⟨by rfl, ?hyB37⟩) hHeld ?_
      case hyB37 => (intro w hSw; (try dsimp only at hSw); go_simp <;> with_reducible rfl)
      try simp only [Act.put, List.setIfInBounds_toArray, List.set_cons_zero, List.set_cons_succ]
      refine wpAnyH_take (i := 38) (oi := { dst := some 85, op := Op.move (Operand.tmp 84), type := 4, pos := "laws.go:257", after := #[{ on := 37, ground := Ground.data }, { on := 30, ground := Ground.chain }], guard := none }) (v := ?vB38) rfl (by kernel_rfl) (by kernel_rfl) (by kernel_rfl) (fun _ _ _ h => h) (Or.inl ⟨by rfl, ?hyB38⟩) hHeld ?_
      case hyB38 => (intro w hSw; (try dsimp only at hSw); go_simp <;> with_reducible rfl)
      try simp only [Act.put, List.setIfInBounds_toArray, List.set_cons_zero, List.set_cons_succ]
      refine wpAnyH_take (i := 39) (oi := { dst := some 86, op := Op.load 49 (Operand.tmp 3), type := 49, pos := "laws.go:257", after := #[{ on := 38, ground := Ground.guard }], guard := some (38, true) }) (v := ?vB39) rfl (by kernel_rfl) (by kernel_rfl) (by kernel_rfl) (fun _ _ _ h => h) (Or.inl ⟨by rfl, ?hyB39⟩) hHeld ?_
      case hyB39 => (intro w hSw; (try dsimp only at hSw); go_simp <;> with_reducible rfl)
      try simp only [Act.put, List.setIfInBounds_toArray, List.set_cons_zero, List.set_cons_succ]
      refine wpAnyH_take (i := 40) (oi := { dst := some 87, op := Op.load 49 (Operand.tmp 5), type := 49, pos := "laws.go:257", after := #[{ on := 38, ground := Ground.guard }], guard := some (38, true) }) (v := ?vB40) rfl (by kernel_rfl) (by kernel_rfl) (by kernel_rfl) (fun _ _ _ h => h) (Or.inl ⟨by rfl, ?hyB40⟩) hHeld ?_
      case hyB40 => (intro w hSw; (try dsimp only at hSw); go_simp <;> with_reducible rfl)
      try simp only [Act.put, List.setIfInBounds_toArray, List.set_cons_zero, List.set_cons_succ]
      refine wpAnyH_take (i := 42) (oi := { dst := some 89, op := Op.load 49 (Operand.tmp 5), type := 49, pos := "laws.go:257", after := #[{ on := 38, ground := Ground.guard }], guard := some (38, true) }) (v := ?vB42) rfl (by kernel_rfl) (by kernel_rfl) (by kernel_rfl) (fun _ _ _ h => h) (Or.inl ⟨by rfl, ?hyB42⟩) hHeld ?_
      case hyB42 => (intro w hSw; (try dsimp only at hSw); go_simp <;> with_reducible rfl)
      try simp only [Act.put, List.setIfInBounds_toArray, List.set_cons_zero, List.set_cons_succ]
      refine wpAnyH_ready (rs := [41]) (by kernel_rfl) (by simp) ?_
      refine AllReadyH.cons (o := { dst := some 88, op := Op.call { callee := Callee.value (Operand.func 43), args := #[Operand.tmp 86, Operand.tmp 87], argTypes := #[49, 49] }, type := 49, pos := "laws.go:257", after := #[{ on := 39, ground := Ground.data }, { on := 40, ground := Ground.data }, { on := 38, ground := Ground.chain }, { on := 38, ground := Ground.guard }], guard := some (38, true) }) rfl (fun K hK => ?_) AllReadyH.nil
      go_simp
      refine (M2.out _ hHeld.1).mono ?_
      rintro r wy ⟨⟨gS, cS, rfl, HSm⟩, hy⟩
      have hz : Below y.heap.size y wy := grow_on hHeld.1 hy
      clear hHeld hy
      refine hK.out _ _ (HS.out _ hz) (fun hHeld => ?_)
      clear hK K hz
      try simp only [Act.put, List.setIfInBounds_toArray, List.set_cons_zero, List.set_cons_succ]
      refine wpAnyH_ready (rs := [43]) (by kernel_rfl) (by simp) ?_
      refine AllReadyH.cons (o := { dst := some 90, op := Op.call { callee := Callee.value (Operand.func 45), args := #[Operand.tmp 88, Operand.tmp 89], argTypes := #[49, 49] }, type := 4, pos := "laws.go:257", after := #[{ on := 41, ground := Ground.data }, { on := 42, ground := Ground.data }, { on := 41, ground := Ground.chain }, { on := 38, ground := Ground.guard }], guard := some (38, true) }) rfl (fun K hK => ?_) AllReadyH.nil
      go_simp
      refine (S1.out _ _ _ hHeld.1 HSm).mono ?_
      rintro r wy ⟨rfl, hy⟩
      have hz : Below y.heap.size y wy := grow_on hHeld.1 hy
      clear hHeld hy HSm
      refine hK.out _ _ (HS.out _ hz) (fun hHeld => ?_)
      clear hK K hz
      try simp only [Act.put, List.setIfInBounds_toArray, List.set_cons_zero, List.set_cons_succ]
      refine wpAnyH_take (i := 44) (oi := { dst := some 91, op := Op.pick (Operand.tmp 85) (Operand.tmp 90) (Operand.const (Value.bool false)), type := 4, pos := "laws.go:257", after := #[{ on := 38, ground := Ground.data }, { on := 43, ground := Ground.data }], guard := none }) (v := ?vB44) rfl (by kernel_rfl) (by kernel_rfl) (by kernel_rfl) (fun _ _ _ h => h) (Or.inl ⟨by rfl, ?hyB44⟩) hHeld ?_
      case hyB44 => (intro w hSw; (try dsimp only at hSw); go_simp <;> with_reducible rfl)
      try simp only [Act.put, List.setIfInBounds_toArray, List.set_cons_zero, List.set_cons_succ]
      refine wpAnyH_take (i := 45) (oi := { dst := some 92, op := Op.move (Operand.tmp 91), type := 4, pos := "laws.go:257", after := #[{ on := 44, ground := Ground.data }, { on := 43, ground := Ground.chain }], guard := none }) (v := ?vB45) rfl (by kernel_rfl) (by kernel_rfl) (by kernel_rfl) (fun _ _ _ h => h) (Or.inl ⟨by rfl, ?hyB45⟩) hHeld ?_
      case hyB45 => (intro w hSw; (try dsimp only at hSw); go_simp <;> with_reducible rfl)
      try simp only [Act.put, List.setIfInBounds_toArray, List.set_cons_zero, List.set_cons_succ]
      refine wpAnyH_take (i := 46) (oi := { dst := some 93, op := Op.load 49 (Operand.tmp 4), type := 49, pos := "laws.go:257", after := #[{ on := 45, ground := Ground.guard }], guard := some (45, true) }) (v := ?vB46) rfl (by kernel_rfl) (by kernel_rfl) (by kernel_rfl) (fun _ _ _ h => h) (Or.inl ⟨by rfl, ?hyB46⟩) hHeld ?_
      case hyB46 => (intro w hSw; (try dsimp only at hSw); go_simp <;> with_reducible rfl)
      try simp only [Act.put, List.setIfInBounds_toArray, List.set_cons_zero, List.set_cons_succ]
      refine wpAnyH_take (i := 47) (oi := { dst := some 94, op := Op.load 49 (Operand.tmp 4), type := 49, pos := "laws.go:257", after := #[{ on := 45, ground := Ground.guard }], guard := some (45, true) }) (v := ?vB47) rfl (by kernel_rfl) (by kernel_rfl) (by kernel_rfl) (fun _ _ _ h => h) (Or.inl ⟨by rfl, ?hyB47⟩) hHeld ?_
      case hyB47 => (intro w hSw; (try dsimp only at hSw); go_simp <;> with_reducible rfl)
      try simp only [Act.put, List.setIfInBounds_toArray, List.set_cons_zero, List.set_cons_succ]
      refine wpAnyH_take (i := 49) (oi := { dst := some 96, op := Op.load 49 (Operand.tmp 4), type := 49, pos := "laws.go:257", after := #[{ on := 45, ground := Ground.guard }], guard := some (45, true) }) (v := ?vB49) rfl (by kernel_rfl) (by kernel_rfl) (by kernel_rfl) (fun _ _ _ h => h) (Or.inl ⟨by rfl, ?hyB49⟩) hHeld ?_
      case hyB49 => (intro w hSw; (try dsimp only at hSw); go_simp <;> with_reducible rfl)
      try simp only [Act.put, List.setIfInBounds_toArray, List.set_cons_zero, List.set_cons_succ]
      refine wpAnyH_ready (rs := [48]) (by kernel_rfl) (by simp) ?_
      refine AllReadyH.cons (o := { dst := some 95, op := Op.call { callee := Callee.value (Operand.func 43), args := #[Operand.tmp 93, Operand.tmp 94], argTypes := #[49, 49] }, type := 49, pos := "laws.go:257", after := #[{ on := 46, ground := Ground.data }, { on := 47, ground := Ground.data }, { on := 45, ground := Ground.chain }, { on := 45, ground := Ground.guard }], guard := some (45, true) }) rfl (fun K hK => ?_) AllReadyH.nil
      go_simp
      refine (M3.out _ hHeld.1).mono ?_
      rintro r wy ⟨⟨gS, cS, rfl, HSm⟩, hy⟩
      have hz : Below y.heap.size y wy := grow_on hHeld.1 hy
      clear hHeld hy
      refine hK.out _ _ (HS.out _ hz) (fun hHeld => ?_)
      clear hK K hz
      try simp only [Act.put, List.setIfInBounds_toArray, List.set_cons_zero, List.set_cons_succ]
      refine wpAnyH_ready (rs := [50]) (by kernel_rfl) (by simp) ?_
      refine AllReadyH.cons (o := { dst := some 97, op := Op.call { callee := Callee.value (Operand.func 45), args := #[Operand.tmp 95, Operand.tmp 96], argTypes := #[49, 49] }, type := 4, pos := "laws.go:257", after := #[{ on := 48, ground := Ground.data }, { on := 49, ground := Ground.data }, { on := 48, ground := Ground.chain }, { on := 45, ground := Ground.guard }], guard := some (45, true) }) rfl (fun K hK => ?_) AllReadyH.nil
      go_simp
      refine (S2.out _ _ _ hHeld.1 HSm).mono ?_
      rintro r wy ⟨rfl, hy⟩
      have hz : Below y.heap.size y wy := grow_on hHeld.1 hy
      clear hHeld hy HSm
      refine hK.out _ _ (HS.out _ hz) (fun hHeld => ?_)
      clear hK K hz
      try simp only [Act.put, List.setIfInBounds_toArray, List.set_cons_zero, List.set_cons_succ]
      refine wpAnyH_take (i := 51) (oi := { dst := some 98, op := Op.pick (Operand.tmp 92) (Operand.tmp 97) (Operand.const (Value.bool false)), type := 4, pos := "laws.go:257", after := #[{ on := 45, ground := Ground.data }, { on := 50, ground := Ground.data }], guard := none }) (v := ?vB51) rfl (by kernel_rfl) (by kernel_rfl) (by kernel_rfl) (fun _ _ _ h => h) (Or.inl ⟨by rfl, ?hyB51⟩) hHeld ?_
      case hyB51 => (intro w hSw; (try dsimp only at hSw); go_simp <;> with_reducible rfl)
      try simp only [Act.put, List.setIfInBounds_toArray, List.set_cons_zero, List.set_cons_succ]
      refine wpAnyH_take (i := 52) (oi := { dst := some 99, op := Op.move (Operand.tmp 98), type := 4, pos := "laws.go:257", after := #[{ on := 51, ground := Ground.data }, { on := 50, ground := Ground.chain }], guard := none }) (v := ?vB52) rfl (by kernel_rfl) (by kernel_rfl) (by kernel_rfl) (fun _ _ _ h => h) (Or.inl ⟨by rfl, ?hyB52⟩) hHeld ?_
      case hyB52 => (intro w hSw; (try dsimp only at hSw); go_simp <;> with_reducible rfl)
      try simp only [Act.put, List.setIfInBounds_toArray, List.set_cons_zero, List.set_cons_succ]
      refine wpAnyH_take (i := 53) (oi := { dst := some 100, op := Op.load 49 (Operand.tmp 3), type := 49, pos := "laws.go:257", after := #[{ on := 52, ground := Ground.guard }], guard := some (52, true) }) (v := ?vB53) rfl (by kernel_rfl) (by kernel_rfl) (by kernel_rfl) (fun _ _ _ h => h) (Or.inl ⟨by rfl, ?hyB53⟩) hHeld ?_
      case hyB53 => (intro w hSw; (try dsimp only at hSw); go_simp <;> with_reducible rfl)
      try simp only [Act.put, List.setIfInBounds_toArray, List.set_cons_zero, List.set_cons_succ]
      refine wpAnyH_ready (rs := [54]) (by kernel_rfl) (by simp) ?_
      refine AllReadyH.cons (o := { dst := some 101, op := Op.call { callee := Callee.value (Operand.func 49), args := #[Operand.tmp 100], argTypes := #[49] }, type := 4, pos := "laws.go:257", after := #[{ on := 53, ground := Ground.data }, { on := 52, ground := Ground.chain }, { on := 52, ground := Ground.guard }], guard := some (52, true) }) rfl (fun K hK => ?_) AllReadyH.nil
      go_simp
      refine (OA.out _ hHeld.1).mono ?_
      rintro r wy ⟨rfl, hy⟩
      have hz : Below y.heap.size y wy := grow_on hHeld.1 hy
      clear hHeld hy
      refine hK.out _ _ (HS.out _ hz) (fun hHeld => ?_)
      clear hK K hz
      try simp only [Act.put, List.setIfInBounds_toArray, List.set_cons_zero, List.set_cons_succ]
      refine wpAnyH_take (i := 55) (oi := { dst := some 102, op := Op.unOp UnOp.not 4 (Operand.tmp 101), type := 4, pos := "laws.go:257", after := #[{ on := 54, ground := Ground.data }, { on := 52, ground := Ground.guard }], guard := some (52, true) }) (v := ?vB55) rfl (by kernel_rfl) (by kernel_rfl) (by kernel_rfl) (fun _ _ _ h => h) (Or.inl ⟨by rfl, ?hyB55⟩) hHeld ?_
      case hyB55 => (intro w hSw; (try dsimp only at hSw); go_simp <;> with_reducible rfl)
      try simp only [Act.put, List.setIfInBounds_toArray, List.set_cons_zero, List.set_cons_succ]
      refine wpAnyH_take (i := 56) (oi := { dst := some 103, op := Op.move (Operand.tmp 102), type := 4, pos := "laws.go:257", after := #[{ on := 55, ground := Ground.data }, { on := 54, ground := Ground.chain }, { on := 52, ground := Ground.guard }], guard := some (52, true) }) (v := ?vB56) rfl (by kernel_rfl) (by kernel_rfl) (by kernel_rfl) (fun _ _ _ h => h) (Or.inl ⟨by rfl, ?hyB56⟩) hHeld ?_
      case hyB56 => (intro w hSw; (try dsimp only at hSw); go_simp <;> with_reducible rfl)
      try simp only [Act.put, List.setIfInBounds_toArray, List.set_cons_zero, List.set_cons_succ]
      refine wpAnyH_take (i := 57) (oi := { dst := some 104, op := Op.load 49 (Operand.tmp 4), type := 49, pos := "laws.go:257", after := #[{ on := 56, ground := Ground.guard }], guard := some (56, false) }) (v := undef) rfl (by kernel_rfl) (by kernel_rfl) (by kernel_rfl) (fun _ _ _ h => h) (Or.inr ⟨by rfl, rfl⟩) hHeld ?_
      try simp only [Act.put, List.setIfInBounds_toArray, List.set_cons_zero, List.set_cons_succ]
      refine wpAnyH_ready (rs := [58]) (by kernel_rfl) (by simp) ?_
      refine AllReadyH.cons (o := { dst := some 105, op := Op.call { callee := Callee.value (Operand.func 49), args := #[Operand.tmp 104], argTypes := #[49] }, type := 4, pos := "laws.go:257", after := #[{ on := 57, ground := Ground.data }, { on := 56, ground := Ground.chain }, { on := 56, ground := Ground.guard }], guard := some (56, false) }) rfl (fun K hK => ?_) AllReadyH.nil
      go_simp
      refine hK.out _ _ hHeld (fun hHeld => ?_)
      clear hK K
      try simp only [Act.put, List.setIfInBounds_toArray, List.set_cons_zero, List.set_cons_succ]
      refine wpAnyH_take (i := 59) (oi := { dst := some 106, op := Op.unOp UnOp.not 4 (Operand.tmp 105), type := 4, pos := "laws.go:257", after := #[{ on := 58, ground := Ground.data }, { on := 56, ground := Ground.guard }], guard := some (56, false) }) (v := undef) rfl (by kernel_rfl) (by kernel_rfl) (by kernel_rfl) (fun _ _ _ h => h) (Or.inr ⟨by rfl, rfl⟩) hHeld ?_
      try simp only [Act.put, List.setIfInBounds_toArray, List.set_cons_zero, List.set_cons_succ]
      refine wpAnyH_take (i := 60) (oi := { dst := some 107, op := Op.pick (Operand.tmp 103) (Operand.const (Value.bool true)) (Operand.tmp 106), type := 4, pos := "laws.go:257", after := #[{ on := 56, ground := Ground.data }, { on := 59, ground := Ground.data }, { on := 52, ground := Ground.guard }], guard := some (52, true) }) (v := ?vB60) rfl (by kernel_rfl) (by kernel_rfl) (by kernel_rfl) (fun _ _ _ h => h) (Or.inl ⟨by rfl, ?hyB60⟩) hHeld ?_
      case hyB60 => (intro w hSw; (try dsimp only at hSw); go_simp <;> with_reducible rfl)
      try simp only [Act.put, List.setIfInBounds_toArray, List.set_cons_zero, List.set_cons_succ]
      refine wpAnyH_take (i := 61) (oi := { dst := some 108, op := Op.move (Operand.tmp 107), type := 4, pos := "laws.go:257", after := #[{ on := 60, ground := Ground.data }, { on := 58, ground := Ground.chain }, { on := 52, ground := Ground.guard }], guard := some (52, true) }) (v := ?vB61) rfl (by kernel_rfl) (by kernel_rfl) (by kernel_rfl) (fun _ _ _ h => h) (Or.inl ⟨by rfl, ?hyB61⟩) hHeld ?_
      case hyB61 => (intro w hSw; (try dsimp only at hSw); go_simp <;> with_reducible rfl)
      try simp only [Act.put, List.setIfInBounds_toArray, List.set_cons_zero, List.set_cons_succ]
      refine wpAnyH_take (i := 62) (oi := { dst := some 109, op := Op.load 49 (Operand.tmp 5), type := 49, pos := "laws.go:257", after := #[{ on := 61, ground := Ground.guard }], guard := some (61, false) }) (v := undef) rfl (by kernel_rfl) (by kernel_rfl) (by kernel_rfl) (fun _ _ _ h => h) (Or.inr ⟨by rfl, rfl⟩) hHeld ?_
      try simp only [Act.put, List.setIfInBounds_toArray, List.set_cons_zero, List.set_cons_succ]
      refine wpAnyH_ready (rs := [63]) (by kernel_rfl) (by simp) ?_
      refine AllReadyH.cons (o := { dst := some 110, op := Op.call { callee := Callee.value (Operand.func 49), args := #[Operand.tmp 109], argTypes := #[49] }, type := 4, pos := "laws.go:257", after := #[{ on := 62, ground := Ground.data }, { on := 61, ground := Ground.chain }, { on := 61, ground := Ground.guard }], guard := some (61, false) }) rfl (fun K hK => ?_) AllReadyH.nil
      go_simp
      refine hK.out _ _ hHeld (fun hHeld => ?_)
      clear hK K
      try simp only [Act.put, List.setIfInBounds_toArray, List.set_cons_zero, List.set_cons_succ]
      refine wpAnyH_take (i := 64) (oi := { dst := some 111, op := Op.pick (Operand.tmp 108) (Operand.const (Value.bool true)) (Operand.tmp 110), type := 4, pos := "laws.go:257", after := #[{ on := 61, ground := Ground.data }, { on := 63, ground := Ground.data }, { on := 52, ground := Ground.guard }], guard := some (52, true) }) (v := ?vB64) rfl (by kernel_rfl) (by kernel_rfl) (by kernel_rfl) (fun _ _ _ h => h) (Or.inl ⟨by rfl, ?hyB64⟩) hHeld ?_
      case hyB64 => (intro w hSw; (try dsimp only at hSw); go_simp <;> with_reducible rfl)
      try simp only [Act.put, List.setIfInBounds_toArray, List.set_cons_zero, List.set_cons_succ]
      refine wpAnyH_take (i := 65) (oi := { dst := some 112, op := Op.pick (Operand.tmp 99) (Operand.tmp 111) (Operand.const (Value.bool false)), type := 4, pos := "laws.go:257", after := #[{ on := 52, ground := Ground.data }, { on := 64, ground := Ground.data }], guard := none }) (v := ?vB65) rfl (by kernel_rfl) (by kernel_rfl) (by kernel_rfl) (fun _ _ _ h => h) (Or.inl ⟨by rfl, ?hyB65⟩) hHeld ?_
      case hyB65 => (intro w hSw; (try dsimp only at hSw); go_simp <;> with_reducible rfl)
      try simp only [Act.put, List.setIfInBounds_toArray, List.set_cons_zero, List.set_cons_succ]
      refine wpAnyH_take (i := 66) (oi := { dst := some 2, op := Op.assign (Operand.tmp 112), type := 4, pos := "laws.go:257", after := #[{ on := 65, ground := Ground.data }, { on := 63, ground := Ground.chain }, { on := 0, ground := Ground.phase }, { on := 1, ground := Ground.phase }, { on := 2, ground := Ground.phase }, { on := 3, ground := Ground.phase }, { on := 4, ground := Ground.phase }, { on := 5, ground := Ground.phase }, { on := 6, ground := Ground.phase }, { on := 7, ground := Ground.phase }, { on := 8, ground := Ground.phase }, { on := 9, ground := Ground.phase }, { on := 10, ground := Ground.phase }, { on := 11, ground := Ground.phase }, { on := 12, ground := Ground.phase }, { on := 13, ground := Ground.phase }, { on := 14, ground := Ground.phase }, { on := 15, ground := Ground.phase }, { on := 16, ground := Ground.phase }, { on := 17, ground := Ground.phase }, { on := 18, ground := Ground.phase }, { on := 19, ground := Ground.phase }, { on := 20, ground := Ground.phase }, { on := 21, ground := Ground.phase }, { on := 22, ground := Ground.phase }, { on := 23, ground := Ground.phase }, { on := 24, ground := Ground.phase }, { on := 25, ground := Ground.phase }, { on := 26, ground := Ground.phase }, { on := 27, ground := Ground.phase }, { on := 28, ground := Ground.phase }, { on := 29, ground := Ground.phase }, { on := 30, ground := Ground.phase }, { on := 31, ground := Ground.phase }, { on := 32, ground := Ground.phase }, { on := 33, ground := Ground.phase }, { on := 34, ground := Ground.phase }, { on := 35, ground := Ground.phase }, { on := 36, ground := Ground.phase }, { on := 37, ground := Ground.phase }, { on := 38, ground := Ground.phase }, { on := 39, ground := Ground.phase }, { on := 40, ground := Ground.phase }, { on := 41, ground := Ground.phase }, { on := 42, ground := Ground.phase }, { on := 43, ground := Ground.phase }, { on := 44, ground := Ground.phase }, { on := 45, ground := Ground.phase }, { on := 46, ground := Ground.phase }, { on := 47, ground := Ground.phase }, { on := 48, ground := Ground.phase }, { on := 49, ground := Ground.phase }, { on := 50, ground := Ground.phase }, { on := 51, ground := Ground.phase }, { on := 52, ground := Ground.phase }, { on := 53, ground := Ground.phase }, { on := 54, ground := Ground.phase }, { on := 55, ground := Ground.phase }, { on := 56, ground := Ground.phase }, { on := 57, ground := Ground.phase }, { on := 58, ground := Ground.phase }, { on := 59, ground := Ground.phase }, { on := 60, ground := Ground.phase }, { on := 61, ground := Ground.phase }, { on := 62, ground := Ground.phase }, { on := 63, ground := Ground.phase }, { on := 64, ground := Ground.phase }, { on := 65, ground := Ground.phase }], guard := none }) (v := ?vB66) rfl (by kernel_rfl) (by kernel_rfl) (by kernel_rfl) (fun _ _ _ h => h) (Or.inl ⟨by rfl, ?hyB66⟩) hHeld ?_
      case hyB66 => (intro w hSw; (try dsimp only at hSw); go_simp <;> with_reducible rfl)
      try simp only [Act.put, List.setIfInBounds_toArray, List.set_cons_zero, List.set_cons_succ]
      refine wpAnyH_done (by kernel_rfl) ?_ _
      go_wp2
      go_ret
      exact ⟨rfl, grow_on BY.out hHeld.1⟩
    | true =>
      cases hb : alarmB p2 s2 e2 n2 with
      | false =>
        rw [ha] at OA
        rw [hb] at OB
        clear ha hb HOK
        refine wp_region_held_drew (S := fun w' => Below y.heap.size y w' ∧ w'.cell? ⟨w1.heap.size, 0, none⟩ = some (.slice (some ⟨g1, 0, none⟩) p1.length c1) ∧ w'.cell? ⟨w1.heap.size, 1, none⟩ = some (.int .i64 s1) ∧ w'.cell? ⟨w1.heap.size, 2, none⟩ = some (.int .i64 e1) ∧ w'.cell? ⟨w1.heap.size, 3, none⟩ = some (.string n1) ∧ w'.cell? ⟨(w1.heap.size + 1), 0, none⟩ = some (.slice (some ⟨g2, 0, none⟩) p2.length c2) ∧ w'.cell? ⟨(w1.heap.size + 1), 1, none⟩ = some (.int .i64 s2) ∧ w'.cell? ⟨(w1.heap.size + 1), 2, none⟩ = some (.int .i64 e2) ∧ w'.cell? ⟨(w1.heap.size + 1), 3, none⟩ = some (.string n2) ∧ w'.cell? ⟨w2.heap.size, 0, none⟩ = some (.slice (some ⟨g5, 0, none⟩) p2.length c5) ∧ w'.cell? ⟨w2.heap.size, 1, none⟩ = some (.int .i64 s2) ∧ w'.cell? ⟨w2.heap.size, 2, none⟩ = some (.int .i64 e2) ∧ w'.cell? ⟨w2.heap.size, 3, none⟩ = some (.string n2)) (by kernel_rfl) (HS.out _ kz) (fun hHeld => ?_)
        refine wpAnyH_take (i := 0) (oi := { dst := some 47, op := Op.fieldAddr 49 (Operand.tmp 5) 2, type := 0, pos := "laws.go:257", after := #[], guard := none }) (v := ?vC0) rfl (by kernel_rfl) (by kernel_rfl) (by kernel_rfl) (fun _ _ _ h => h) (Or.inl ⟨by rfl, ?hyC0⟩) hHeld ?_
        case hyC0 => (intro w hSw; (try dsimp only at hSw); go_simp <;> with_reducible rfl)
        try simp only [Act.put, List.setIfInBounds_toArray, List.set_cons_zero, List.set_cons_succ]
        refine wpAnyH_take (i := 1) (oi := { dst := some 48, op := Op.load 3 (Operand.tmp 47), type := 3, pos := "laws.go:257", after := #[{ on := 0, ground := Ground.data }], guard := none }) (v := ?vC1) rfl (by kernel_rfl) (by kernel_rfl) (by kernel_rfl) (fun _ _ _ h => h) (Or.inl ⟨by rfl, ?hyC1⟩) hHeld ?_
        case hyC1 => (intro w hSw; (try dsimp only at hSw); go_simp <;> with_reducible rfl)
        try simp only [Act.put, List.setIfInBounds_toArray, List.set_cons_zero, List.set_cons_succ]
        refine wpAnyH_take (i := 2) (oi := { dst := some 49, op := Op.fieldAddr 49 (Operand.tmp 4) 2, type := 0, pos := "laws.go:257", after := #[], guard := none }) (v := ?vC2) rfl (by kernel_rfl) (by kernel_rfl) (by kernel_rfl) (fun _ _ _ h => h) (Or.inl ⟨by rfl, ?hyC2⟩) hHeld ?_
        case hyC2 => (intro w hSw; (try dsimp only at hSw); go_simp <;> with_reducible rfl)
        try simp only [Act.put, List.setIfInBounds_toArray, List.set_cons_zero, List.set_cons_succ]
        refine wpAnyH_take (i := 3) (oi := { dst := some 50, op := Op.load 3 (Operand.tmp 49), type := 3, pos := "laws.go:257", after := #[{ on := 2, ground := Ground.data }], guard := none }) (v := ?vC3) rfl (by kernel_rfl) (by kernel_rfl) (by kernel_rfl) (fun _ _ _ h => h) (Or.inl ⟨by rfl, ?hyC3⟩) hHeld ?_
        case hyC3 => (intro w hSw; (try dsimp only at hSw); go_simp <;> with_reducible rfl)
        try simp only [Act.put, List.setIfInBounds_toArray, List.set_cons_zero, List.set_cons_succ]
        refine wpAnyH_take (i := 4) (oi := { dst := some 51, op := Op.binOp BinOp.eql 3 (Operand.tmp 48) (Operand.tmp 50) 3, type := 4, pos := "laws.go:257", after := #[{ on := 1, ground := Ground.data }, { on := 3, ground := Ground.data }], guard := none }) (v := ?vC4) rfl (by kernel_rfl) (by kernel_rfl) (by kernel_rfl) (fun _ _ _ h => h) (Or.inl ⟨by rfl, ?hyC4⟩) hHeld ?_
        case hyC4 => (intro w hSw; (try dsimp only at hSw); go_simp <;> with_reducible rfl)
        try simp only [Act.put, List.setIfInBounds_toArray, List.set_cons_zero, List.set_cons_succ]
        refine wpAnyH_take (i := 5) (oi := { dst := some 52, op := Op.move (Operand.tmp 51), type := 4, pos := "laws.go:257", after := #[{ on := 4, ground := Ground.data }], guard := none }) (v := ?vC5) rfl (by kernel_rfl) (by kernel_rfl) (by kernel_rfl) (fun _ _ _ h => h) (Or.inl ⟨by rfl, ?hyC5⟩) hHeld ?_
        case hyC5 => (intro w hSw; (try dsimp only at hSw); go_simp <;> with_reducible rfl)
        try simp only [Act.put, List.setIfInBounds_toArray, List.set_cons_zero, List.set_cons_succ]
        refine wpAnyH_take (i := 6) (oi := { dst := some 53, op := Op.fieldAddr 49 (Operand.tmp 5) 3, type := 0, pos := "laws.go:257", after := #[{ on := 5, ground := Ground.guard }], guard := some (5, true) }) (v := ?vC6) rfl (by kernel_rfl) (by kernel_rfl) (by kernel_rfl) (fun _ _ _ h => h) (Or.inl ⟨by rfl, ?hyC6⟩) hHeld ?_
        case hyC6 => (intro w hSw; (try dsimp only at hSw); go_simp <;> with_reducible rfl)
        try simp only [Act.put, List.setIfInBounds_toArray, List.set_cons_zero, List.set_cons_succ]
        refine wpAnyH_take (i := 7) (oi := { dst := some 54, op := Op.load 9 (Operand.tmp 53), type := 9, pos := "laws.go:257", after := #[{ on := 6, ground := Ground.data }, { on := 5, ground := Ground.guard }], guard := some (5, true) }) (v := ?vC7) rfl (by kernel_rfl) (by kernel_rfl) (by kernel_rfl) (fun _ _ _ h => h) (Or.inl ⟨by rfl, ?hyC7⟩) hHeld ?_
        case hyC7 => (intro w hSw; (try dsimp only at hSw); go_simp <;> with_reducible rfl)
        try simp only [Act.put, List.setIfInBounds_toArray, List.set_cons_zero, List.set_cons_succ]
        refine wpAnyH_take (i := 8) (oi := { dst := some 55, op := Op.fieldAddr 49 (Operand.tmp 4) 3, type := 0, pos := "laws.go:257", after := #[{ on := 5, ground := Ground.guard }], guard := some (5, true) }) (v := ?vC8) rfl (by kernel_rfl) (by kernel_rfl) (by kernel_rfl) (fun _ _ _ h => h) (Or.inl ⟨by rfl, ?hyC8⟩) hHeld ?_
        case hyC8 => (intro w hSw; (try dsimp only at hSw); go_simp <;> with_reducible rfl)
        try simp only [Act.put, List.setIfInBounds_toArray, List.set_cons_zero, List.set_cons_succ]
        refine wpAnyH_take (i := 9) (oi := { dst := some 56, op := Op.load 9 (Operand.tmp 55), type := 9, pos := "laws.go:257", after := #[{ on := 8, ground := Ground.data }, { on := 5, ground := Ground.guard }], guard := some (5, true) }) (v := ?vC9) rfl (by kernel_rfl) (by kernel_rfl) (by kernel_rfl) (fun _ _ _ h => h) (Or.inl ⟨by rfl, ?hyC9⟩) hHeld ?_
        case hyC9 => (intro w hSw; (try dsimp only at hSw); go_simp <;> with_reducible rfl)
        try simp only [Act.put, List.setIfInBounds_toArray, List.set_cons_zero, List.set_cons_succ]
        refine wpAnyH_take (i := 10) (oi := { dst := some 57, op := Op.binOp BinOp.eql 9 (Operand.tmp 54) (Operand.tmp 56) 9, type := 4, pos := "laws.go:257", after := #[{ on := 7, ground := Ground.data }, { on := 9, ground := Ground.data }, { on := 5, ground := Ground.guard }], guard := some (5, true) }) (v := ?vC10) rfl (by kernel_rfl) (by kernel_rfl) (by kernel_rfl) (fun _ _ _ h => h) (Or.inl ⟨by rfl, ?hyC10⟩) hHeld ?_
        case hyC10 => (intro w hSw; (try dsimp only at hSw); go_simp <;> with_reducible rfl)
        try simp only [Act.put, List.setIfInBounds_toArray, List.set_cons_zero, List.set_cons_succ]
        refine wpAnyH_take (i := 11) (oi := { dst := some 58, op := Op.pick (Operand.tmp 52) (Operand.tmp 57) (Operand.const (Value.bool false)), type := 4, pos := "laws.go:257", after := #[{ on := 5, ground := Ground.data }, { on := 10, ground := Ground.data }], guard := none }) (v := ?vC11) rfl (by kernel_rfl) (by kernel_rfl) (by kernel_rfl) (fun _ _ _ h => h) (Or.inl ⟨by rfl, ?hyC11⟩) hHeld ?_
        case hyC11 => (intro w hSw; (try dsimp only at hSw); go_simp <;> with_reducible rfl)
        try simp only [Act.put, List.setIfInBounds_toArray, List.set_cons_zero, List.set_cons_succ]
        refine wpAnyH_take (i := 12) (oi := { dst := some 59, op := Op.move (Operand.tmp 58), type := 4, pos := "laws.go:257", after := #[{ on := 11, ground := Ground.data }, { on := 5, ground := Ground.chain }], guard := none }) (v := ?vC12) rfl (by kernel_rfl) (by kernel_rfl) (by kernel_rfl) (fun _ _ _ h => h) (Or.inl ⟨by rfl, ?hyC12⟩) hHeld ?_
        case hyC12 => (intro w hSw; (try dsimp only at hSw); go_simp <;> with_reducible rfl)
        try simp only [Act.put, List.setIfInBounds_toArray, List.set_cons_zero, List.set_cons_succ]
        refine wpAnyH_take (i := 13) (oi := { dst := some 60, op := Op.fieldAddr 49 (Operand.tmp 5) 0, type := 0, pos := "laws.go:257", after := #[{ on := 12, ground := Ground.guard }], guard := some (12, true) }) (v := ?vC13) rfl (by kernel_rfl) (by kernel_rfl) (by kernel_rfl) (fun _ _ _ h => h) (Or.inl ⟨by rfl, ?hyC13⟩) hHeld ?_
        case hyC13 => (intro w hSw; (try dsimp only at hSw); go_simp <;> with_reducible rfl)
        try simp only [Act.put, List.setIfInBounds_toArray, List.set_cons_zero, List.set_cons_succ]
        refine wpAnyH_take (i := 14) (oi := { dst := some 61, op := Op.load 24 (Operand.tmp 60), type := 24, pos := "laws.go:257", after := #[{ on := 13, ground := Ground.data }, { on := 12, ground := Ground.guard }], guard := some (12, true) }) (v := ?vC14) rfl (by kernel_rfl) (by kernel_rfl) (by kernel_rfl) (fun _ _ _ h => h) (Or.inl ⟨by rfl, ?hyC14⟩) hHeld ?_
        case hyC14 => (intro w hSw; (try dsimp only at hSw); go_simp <;> with_reducible rfl)
        try simp only [Act.put, List.setIfInBounds_toArray, List.set_cons_zero, List.set_cons_succ]
        refine wpAnyH_take (i := 15) (oi := { dst := some 62, op := Op.fieldAddr 49 (Operand.tmp 4) 0, type := 0, pos := "laws.go:257", after := #[{ on := 12, ground := Ground.guard }], guard := some (12, true) }) (v := ?vC15) rfl (by kernel_rfl) (by kernel_rfl) (by kernel_rfl) (fun _ _ _ h => h) (Or.inl ⟨by rfl, ?hyC15⟩) hHeld ?_
        case hyC15 => (intro w hSw; (try dsimp only at hSw); go_simp <;> with_reducible rfl)
        try simp only [Act.put, List.setIfInBounds_toArray, List.set_cons_zero, List.set_cons_succ]
        refine wpAnyH_take (i := 16) (oi := { dst := some 63, op := Op.load 24 (Operand.tmp 62), type := 24, pos := "laws.go:257", after := #[{ on := 15, ground := Ground.data }, { on := 12, ground := Ground.guard }], guard := some (12, true) }) (v := ?vC16) rfl (by kernel_rfl) (by kernel_rfl) (by kernel_rfl) (fun _ _ _ h => h) (Or.inl ⟨by rfl, ?hyC16⟩) hHeld ?_
        case hyC16 => (intro w hSw; (try dsimp only at hSw); go_simp <;> with_reducible rfl)
        try simp only [Act.put, List.setIfInBounds_toArray, List.set_cons_zero, List.set_cons_succ]
        refine wpAnyH_ready (rs := [17]) (by kernel_rfl) (by simp) ?_
        refine AllReadyH.cons (o := { dst := some 64, op := Op.call { callee := Callee.value (Operand.func 18), args := #[Operand.tmp 61, Operand.tmp 63], argTypes := #[24, 24] }, type := 4, pos := "laws.go:257", after := #[{ on := 14, ground := Ground.data }, { on := 16, ground := Ground.data }, { on := 12, ground := Ground.chain }, { on := 12, ground := Ground.guard }], guard := some (12, true) }) rfl (fun K hK => ?_) AllReadyH.nil
        go_simp
        refine (CS.out _ hHeld.1).mono ?_
        rintro r wy ⟨rfl, hy⟩
        have hz : Below y.heap.size y wy := grow_on hHeld.1 hy
        clear hHeld hy
        refine hK.out _ _ (HS.out _ hz) (fun hHeld => ?_)
        clear hK K hz
        try simp only [Act.put, List.setIfInBounds_toArray, List.set_cons_zero, List.set_cons_succ]
        refine wpAnyH_take (i := 18) (oi := { dst := some 65, op := Op.pick (Operand.tmp 59) (Operand.tmp 64) (Operand.const (Value.bool false)), type := 4, pos := "laws.go:257", after := #[{ on := 12, ground := Ground.data }, { on := 17, ground := Ground.data }], guard := none }) (v := ?vC18) rfl (by kernel_rfl) (by kernel_rfl) (by kernel_rfl) (fun _ _ _ h => h) (Or.inl ⟨by rfl, ?hyC18⟩) hHeld ?_
        case hyC18 => (intro w hSw; (try dsimp only at hSw); go_simp <;> with_reducible rfl)
        try simp only [Act.put, List.setIfInBounds_toArray, List.set_cons_zero, List.set_cons_succ]
        refine wpAnyH_take (i := 19) (oi := { dst := some 66, op := Op.move (Operand.tmp 65), type := 4, pos := "laws.go:257", after := #[{ on := 18, ground := Ground.data }, { on := 17, ground := Ground.chain }], guard := none }) (v := ?vC19) rfl (by kernel_rfl) (by kernel_rfl) (by kernel_rfl) (fun _ _ _ h => h) (Or.inl ⟨by rfl, ?hyC19⟩) hHeld ?_
        case hyC19 => (intro w hSw; (try dsimp only at hSw); go_simp <;> with_reducible rfl)
        try simp only [Act.put, List.setIfInBounds_toArray, List.set_cons_zero, List.set_cons_succ]
        refine wpAnyH_take (i := 20) (oi := { dst := some 67, op := Op.fieldAddr 49 (Operand.tmp 5) 1, type := 0, pos := "laws.go:257", after := #[{ on := 19, ground := Ground.guard }], guard := some (19, true) }) (v := ?vC20) rfl (by kernel_rfl) (by kernel_rfl) (by kernel_rfl) (fun _ _ _ h => h) (Or.inl ⟨by rfl, ?hyC20⟩) hHeld ?_
        case hyC20 => (intro w hSw; (try dsimp only at hSw); go_simp <;> with_reducible rfl)
        try simp only [Act.put, List.setIfInBounds_toArray, List.set_cons_zero, List.set_cons_succ]
        refine wpAnyH_take (i := 21) (oi := { dst := some 68, op := Op.load 3 (Operand.tmp 67), type := 3, pos := "laws.go:257", after := #[{ on := 20, ground := Ground.data }, { on := 19, ground := Ground.guard }], guard := some (19, true) }) (v := ?vC21) rfl (by kernel_rfl) (by kernel_rfl) (by kernel_rfl) (fun _ _ _ h => h) (Or.inl ⟨by rfl, ?hyC21⟩) hHeld ?_
        case hyC21 => (intro w hSw; (try dsimp only at hSw); go_simp <;> with_reducible rfl)
        try simp only [Act.put, List.setIfInBounds_toArray, List.set_cons_zero, List.set_cons_succ]
        refine wpAnyH_take (i := 22) (oi := { dst := some 69, op := Op.fieldAddr 49 (Operand.tmp 4) 1, type := 0, pos := "laws.go:257", after := #[{ on := 19, ground := Ground.guard }], guard := some (19, true) }) (v := ?vC22) rfl (by kernel_rfl) (by kernel_rfl) (by kernel_rfl) (fun _ _ _ h => h) (Or.inl ⟨by rfl, ?hyC22⟩) hHeld ?_
        case hyC22 => (intro w hSw; (try dsimp only at hSw); go_simp <;> with_reducible rfl)
        try simp only [Act.put, List.setIfInBounds_toArray, List.set_cons_zero, List.set_cons_succ]
        refine wpAnyH_take (i := 23) (oi := { dst := some 70, op := Op.load 3 (Operand.tmp 69), type := 3, pos := "laws.go:257", after := #[{ on := 22, ground := Ground.data }, { on := 19, ground := Ground.guard }], guard := some (19, true) }) (v := ?vC23) rfl (by kernel_rfl) (by kernel_rfl) (by kernel_rfl) (fun _ _ _ h => h) (Or.inl ⟨by rfl, ?hyC23⟩) hHeld ?_
        case hyC23 => (intro w hSw; (try dsimp only at hSw); go_simp <;> with_reducible rfl)
        try simp only [Act.put, List.setIfInBounds_toArray, List.set_cons_zero, List.set_cons_succ]
        refine wpAnyH_take (i := 24) (oi := { dst := some 71, op := Op.binOp BinOp.leq 3 (Operand.tmp 68) (Operand.tmp 70) 3, type := 4, pos := "laws.go:257", after := #[{ on := 21, ground := Ground.data }, { on := 23, ground := Ground.data }, { on := 19, ground := Ground.guard }], guard := some (19, true) }) (v := ?vC24) rfl (by kernel_rfl) (by kernel_rfl) (by kernel_rfl) (fun _ _ _ h => h) (Or.inl ⟨by rfl, ?hyC24⟩) hHeld ?_
        case hyC24 => (intro w hSw; (try dsimp only at hSw); go_simp <;> with_reducible rfl)
        try simp only [Act.put, List.setIfInBounds_toArray, List.set_cons_zero, List.set_cons_succ]
        refine wpAnyH_take (i := 25) (oi := { dst := some 72, op := Op.pick (Operand.tmp 66) (Operand.tmp 71) (Operand.const (Value.bool false)), type := 4, pos := "laws.go:257", after := #[{ on := 19, ground := Ground.data }, { on := 24, ground := Ground.data }], guard := none }) (v := ?vC25) rfl (by kernel_rfl) (by kernel_rfl) (by kernel_rfl) (fun _ _ _ h => h) (Or.inl ⟨by rfl, ?hyC25⟩) hHeld ?_
        case hyC25 => (intro w hSw; (try dsimp only at hSw); go_simp <;> with_reducible rfl)
        try simp only [Act.put, List.setIfInBounds_toArray, List.set_cons_zero, List.set_cons_succ]
        refine wpAnyH_take (i := 26) (oi := { dst := some 73, op := Op.move (Operand.tmp 72), type := 4, pos := "laws.go:257", after := #[{ on := 25, ground := Ground.data }, { on := 19, ground := Ground.chain }], guard := none }) (v := ?vC26) rfl (by kernel_rfl) (by kernel_rfl) (by kernel_rfl) (fun _ _ _ h => h) (Or.inl ⟨by rfl, ?hyC26⟩) hHeld ?_
        case hyC26 => (intro w hSw; (try dsimp only at hSw); go_simp <;> with_reducible rfl)
        try simp only [Act.put, List.setIfInBounds_toArray, List.set_cons_zero, List.set_cons_succ]
        refine wpAnyH_take (i := 27) (oi := { dst := some 74, op := Op.load 49 (Operand.tmp 3), type := 49, pos := "laws.go:257", after := #[{ on := 26, ground := Ground.guard }], guard := some (26, true) }) (v := ?vC27) rfl (by kernel_rfl) (by kernel_rfl) (by kernel_rfl) (fun _ _ _ h => h) (Or.inl ⟨by rfl, ?hyC27⟩) hHeld ?_
        case hyC27 => (intro w hSw; (try dsimp only at hSw); go_simp <;> with_reducible rfl)
        try simp only [Act.put, List.setIfInBounds_toArray, List.set_cons_zero, List.set_cons_succ]
        refine wpAnyH_take (i := 28) (oi := { dst := some 75, op := Op.load 49 (Operand.tmp 4), type := 49, pos := "laws.go:257", after := #[{ on := 26, ground := Ground.guard }], guard := some (26, true) }) (v := ?vC28) rfl (by kernel_rfl) (by kernel_rfl) (by kernel_rfl) (fun _ _ _ h => h) (Or.inl ⟨by rfl, ?hyC28⟩) hHeld ?_
        case hyC28 => (intro w hSw; (try dsimp only at hSw); go_simp <;> with_reducible rfl)
        try simp only [Act.put, List.setIfInBounds_toArray, List.set_cons_zero, List.set_cons_succ]
        refine wpAnyH_ready (rs := [29]) (by kernel_rfl) (by simp) ?_
        refine AllReadyH.cons (o := { dst := some 76, op := Op.call { callee := Callee.value (Operand.func 47), args := #[Operand.tmp 74, Operand.tmp 75], argTypes := #[49, 49] }, type := 4, pos := "laws.go:257", after := #[{ on := 27, ground := Ground.data }, { on := 28, ground := Ground.data }, { on := 26, ground := Ground.chain }, { on := 26, ground := Ground.guard }], guard := some (26, true) }) rfl (fun K hK => ?_) AllReadyH.nil
        go_simp
        refine (CT.out _ hHeld.1).mono ?_
        rintro r wy ⟨rfl, hy⟩
        have hz : Below y.heap.size y wy := grow_on hHeld.1 hy
        clear hHeld hy
        refine hK.out _ _ (HS.out _ hz) (fun hHeld => ?_)
        clear hK K hz
        try simp only [Act.put, List.setIfInBounds_toArray, List.set_cons_zero, List.set_cons_succ]
        refine wpAnyH_take (i := 30) (oi := { dst := some 77, op := Op.move (Operand.tmp 76), type := 4, pos := "laws.go:257", after := #[{ on := 29, ground := Ground.data }, { on := 29, ground := Ground.chain }, { on := 26, ground := Ground.guard }], guard := some (26, true) }) (v := ?vC30) rfl (by kernel_rfl) (by kernel_rfl) (by kernel_rfl) (fun _ _ _ h => h) (Or.inl ⟨by rfl, ?hyC30⟩) hHeld ?_
        case hyC30 => (intro w hSw; (try dsimp only at hSw); go_simp <;> with_reducible rfl)
        try simp only [Act.put, List.setIfInBounds_toArray, List.set_cons_zero, List.set_cons_succ]
        refine wpAnyH_take (i := 31) (oi := { dst := some 78, op := Op.fieldAddr 49 (Operand.tmp 5) 1, type := 0, pos := "laws.go:257", after := #[{ on := 30, ground := Ground.guard }], guard := some (30, false) }) (v := ?vC31) rfl (by kernel_rfl) (by kernel_rfl) (by kernel_rfl) (fun _ _ _ h => h) (Or.inl ⟨by rfl, ?hyC31⟩) hHeld ?_
        case hyC31 => (intro w hSw; (try dsimp only at hSw); go_simp <;> with_reducible rfl)
        try simp only [Act.put, List.setIfInBounds_toArray, List.set_cons_zero, List.set_cons_succ]
        refine wpAnyH_take (i := 32) (oi := { dst := some 79, op := Op.load 3 (Operand.tmp 78), type := 3, pos := "laws.go:257", after := #[{ on := 31, ground := Ground.data }, { on := 30, ground := Ground.guard }], guard := some (30, false) }) (v := ?vC32) rfl (by kernel_rfl) (by kernel_rfl) (by kernel_rfl) (fun _ _ _ h => h) (Or.inl ⟨by rfl, ?hyC32⟩) hHeld ?_
        case hyC32 => (intro w hSw; (try dsimp only at hSw); go_simp <;> with_reducible rfl)
        try simp only [Act.put, List.setIfInBounds_toArray, List.set_cons_zero, List.set_cons_succ]
        refine wpAnyH_take (i := 33) (oi := { dst := some 80, op := Op.fieldAddr 49 (Operand.tmp 4) 1, type := 0, pos := "laws.go:257", after := #[{ on := 30, ground := Ground.guard }], guard := some (30, false) }) (v := ?vC33) rfl (by kernel_rfl) (by kernel_rfl) (by kernel_rfl) (fun _ _ _ h => h) (Or.inl ⟨by rfl, ?hyC33⟩) hHeld ?_
        case hyC33 => (intro w hSw; (try dsimp only at hSw); go_simp <;> with_reducible rfl)
        try simp only [Act.put, List.setIfInBounds_toArray, List.set_cons_zero, List.set_cons_succ]
        refine wpAnyH_take (i := 34) (oi := { dst := some 81, op := Op.load 3 (Operand.tmp 80), type := 3, pos := "laws.go:257", after := #[{ on := 33, ground := Ground.data }, { on := 30, ground := Ground.guard }], guard := some (30, false) }) (v := ?vC34) rfl (by kernel_rfl) (by kernel_rfl) (by kernel_rfl) (fun _ _ _ h => h) (Or.inl ⟨by rfl, ?hyC34⟩) hHeld ?_
        case hyC34 => (intro w hSw; (try dsimp only at hSw); go_simp <;> with_reducible rfl)
        try simp only [Act.put, List.setIfInBounds_toArray, List.set_cons_zero, List.set_cons_succ]
        refine wpAnyH_take (i := 35) (oi := { dst := some 82, op := Op.binOp BinOp.eql 3 (Operand.tmp 79) (Operand.tmp 81) 3, type := 4, pos := "laws.go:257", after := #[{ on := 32, ground := Ground.data }, { on := 34, ground := Ground.data }, { on := 30, ground := Ground.guard }], guard := some (30, false) }) (v := ?vC35) rfl (by kernel_rfl) (by kernel_rfl) (by kernel_rfl) (fun _ _ _ h => h) (Or.inl ⟨by rfl, ?hyC35⟩) hHeld ?_
        case hyC35 => (intro w hSw; (try dsimp only at hSw); go_simp <;> with_reducible rfl)
        try simp only [Act.put, List.setIfInBounds_toArray, List.set_cons_zero, List.set_cons_succ]
        refine wpAnyH_take (i := 36) (oi := { dst := some 83, op := Op.pick (Operand.tmp 77) (Operand.const (Value.bool true)) (Operand.tmp 82), type := 4, pos := "laws.go:257", after := #[{ on := 30, ground := Ground.data }, { on := 35, ground := Ground.data }, { on := 26, ground := Ground.guard }], guard := some (26, true) }) (v := ?vC36) rfl (by kernel_rfl) (by kernel_rfl) (by kernel_rfl) (fun _ _ _ h => h) (Or.inl ⟨by rfl, ?hyC36⟩) hHeld ?_
        case hyC36 => (intro w hSw; (try dsimp only at hSw); go_simp <;> with_reducible rfl)
        try simp only [Act.put, List.setIfInBounds_toArray, List.set_cons_zero, List.set_cons_succ]
        refine wpAnyH_take (i := 37) (oi := { dst := some 84, op := Op.pick (Operand.tmp 73) (Operand.tmp 83) (Operand.const (Value.bool false)), type := 4, pos := "laws.go:257", after := #[{ on := 26, ground := Ground.data }, { on := 36, ground := Ground.data }], guard := none }) (v := ?vC37) rfl (by kernel_rfl) (by kernel_rfl) (by kernel_rfl) (fun _ _ _ h => h) (Or.inl ⟨by rfl, ?hyC37⟩) hHeld ?_
        case hyC37 => (intro w hSw; (try dsimp only at hSw); go_simp <;> with_reducible rfl)
        try simp only [Act.put, List.setIfInBounds_toArray, List.set_cons_zero, List.set_cons_succ]
        refine wpAnyH_take (i := 38) (oi := { dst := some 85, op := Op.move (Operand.tmp 84), type := 4, pos := "laws.go:257", after := #[{ on := 37, ground := Ground.data }, { on := 30, ground := Ground.chain }], guard := none }) (v := ?vC38) rfl (by kernel_rfl) (by kernel_rfl) (by kernel_rfl) (fun _ _ _ h => h) (Or.inl ⟨by rfl, ?hyC38⟩) hHeld ?_
        case hyC38 => (intro w hSw; (try dsimp only at hSw); go_simp <;> with_reducible rfl)
        try simp only [Act.put, List.setIfInBounds_toArray, List.set_cons_zero, List.set_cons_succ]
        refine wpAnyH_take (i := 39) (oi := { dst := some 86, op := Op.load 49 (Operand.tmp 3), type := 49, pos := "laws.go:257", after := #[{ on := 38, ground := Ground.guard }], guard := some (38, true) }) (v := ?vC39) rfl (by kernel_rfl) (by kernel_rfl) (by kernel_rfl) (fun _ _ _ h => h) (Or.inl ⟨by rfl, ?hyC39⟩) hHeld ?_
        case hyC39 => (intro w hSw; (try dsimp only at hSw); go_simp <;> with_reducible rfl)
        try simp only [Act.put, List.setIfInBounds_toArray, List.set_cons_zero, List.set_cons_succ]
        refine wpAnyH_take (i := 40) (oi := { dst := some 87, op := Op.load 49 (Operand.tmp 5), type := 49, pos := "laws.go:257", after := #[{ on := 38, ground := Ground.guard }], guard := some (38, true) }) (v := ?vC40) rfl (by kernel_rfl) (by kernel_rfl) (by kernel_rfl) (fun _ _ _ h => h) (Or.inl ⟨by rfl, ?hyC40⟩) hHeld ?_
        case hyC40 => (intro w hSw; (try dsimp only at hSw); go_simp <;> with_reducible rfl)
        try simp only [Act.put, List.setIfInBounds_toArray, List.set_cons_zero, List.set_cons_succ]
        refine wpAnyH_take (i := 42) (oi := { dst := some 89, op := Op.load 49 (Operand.tmp 5), type := 49, pos := "laws.go:257", after := #[{ on := 38, ground := Ground.guard }], guard := some (38, true) }) (v := ?vC42) rfl (by kernel_rfl) (by kernel_rfl) (by kernel_rfl) (fun _ _ _ h => h) (Or.inl ⟨by rfl, ?hyC42⟩) hHeld ?_
        case hyC42 => (intro w hSw; (try dsimp only at hSw); go_simp <;> with_reducible rfl)
        try simp only [Act.put, List.setIfInBounds_toArray, List.set_cons_zero, List.set_cons_succ]
        refine wpAnyH_ready (rs := [41]) (by kernel_rfl) (by simp) ?_
        refine AllReadyH.cons (o := { dst := some 88, op := Op.call { callee := Callee.value (Operand.func 43), args := #[Operand.tmp 86, Operand.tmp 87], argTypes := #[49, 49] }, type := 49, pos := "laws.go:257", after := #[{ on := 39, ground := Ground.data }, { on := 40, ground := Ground.data }, { on := 38, ground := Ground.chain }, { on := 38, ground := Ground.guard }], guard := some (38, true) }) rfl (fun K hK => ?_) AllReadyH.nil
        go_simp
        refine (M2.out _ hHeld.1).mono ?_
        rintro r wy ⟨⟨gS, cS, rfl, HSm⟩, hy⟩
        have hz : Below y.heap.size y wy := grow_on hHeld.1 hy
        clear hHeld hy
        refine hK.out _ _ (HS.out _ hz) (fun hHeld => ?_)
        clear hK K hz
        try simp only [Act.put, List.setIfInBounds_toArray, List.set_cons_zero, List.set_cons_succ]
        refine wpAnyH_ready (rs := [43]) (by kernel_rfl) (by simp) ?_
        refine AllReadyH.cons (o := { dst := some 90, op := Op.call { callee := Callee.value (Operand.func 45), args := #[Operand.tmp 88, Operand.tmp 89], argTypes := #[49, 49] }, type := 4, pos := "laws.go:257", after := #[{ on := 41, ground := Ground.data }, { on := 42, ground := Ground.data }, { on := 41, ground := Ground.chain }, { on := 38, ground := Ground.guard }], guard := some (38, true) }) rfl (fun K hK => ?_) AllReadyH.nil
        go_simp
        refine (S1.out _ _ _ hHeld.1 HSm).mono ?_
        rintro r wy ⟨rfl, hy⟩
        have hz : Below y.heap.size y wy := grow_on hHeld.1 hy
        clear hHeld hy HSm
        refine hK.out _ _ (HS.out _ hz) (fun hHeld => ?_)
        clear hK K hz
        try simp only [Act.put, List.setIfInBounds_toArray, List.set_cons_zero, List.set_cons_succ]
        refine wpAnyH_take (i := 44) (oi := { dst := some 91, op := Op.pick (Operand.tmp 85) (Operand.tmp 90) (Operand.const (Value.bool false)), type := 4, pos := "laws.go:257", after := #[{ on := 38, ground := Ground.data }, { on := 43, ground := Ground.data }], guard := none }) (v := ?vC44) rfl (by kernel_rfl) (by kernel_rfl) (by kernel_rfl) (fun _ _ _ h => h) (Or.inl ⟨by rfl, ?hyC44⟩) hHeld ?_
        case hyC44 => (intro w hSw; (try dsimp only at hSw); go_simp <;> with_reducible rfl)
        try simp only [Act.put, List.setIfInBounds_toArray, List.set_cons_zero, List.set_cons_succ]
        refine wpAnyH_take (i := 45) (oi := { dst := some 92, op := Op.move (Operand.tmp 91), type := 4, pos := "laws.go:257", after := #[{ on := 44, ground := Ground.data }, { on := 43, ground := Ground.chain }], guard := none }) (v := ?vC45) rfl (by kernel_rfl) (by kernel_rfl) (by kernel_rfl) (fun _ _ _ h => h) (Or.inl ⟨by rfl, ?hyC45⟩) hHeld ?_
        case hyC45 => (intro w hSw; (try dsimp only at hSw); go_simp <;> with_reducible rfl)
        try simp only [Act.put, List.setIfInBounds_toArray, List.set_cons_zero, List.set_cons_succ]
        refine wpAnyH_take (i := 46) (oi := { dst := some 93, op := Op.load 49 (Operand.tmp 4), type := 49, pos := "laws.go:257", after := #[{ on := 45, ground := Ground.guard }], guard := some (45, true) }) (v := ?vC46) rfl (by kernel_rfl) (by kernel_rfl) (by kernel_rfl) (fun _ _ _ h => h) (Or.inl ⟨by rfl, ?hyC46⟩) hHeld ?_
        case hyC46 => (intro w hSw; (try dsimp only at hSw); go_simp <;> with_reducible rfl)
        try simp only [Act.put, List.setIfInBounds_toArray, List.set_cons_zero, List.set_cons_succ]
        refine wpAnyH_take (i := 47) (oi := { dst := some 94, op := Op.load 49 (Operand.tmp 4), type := 49, pos := "laws.go:257", after := #[{ on := 45, ground := Ground.guard }], guard := some (45, true) }) (v := ?vC47) rfl (by kernel_rfl) (by kernel_rfl) (by kernel_rfl) (fun _ _ _ h => h) (Or.inl ⟨by rfl, ?hyC47⟩) hHeld ?_
        case hyC47 => (intro w hSw; (try dsimp only at hSw); go_simp <;> with_reducible rfl)
        try simp only [Act.put, List.setIfInBounds_toArray, List.set_cons_zero, List.set_cons_succ]
        refine wpAnyH_take (i := 49) (oi := { dst := some 96, op := Op.load 49 (Operand.tmp 4), type := 49, pos := "laws.go:257", after := #[{ on := 45, ground := Ground.guard }], guard := some (45, true) }) (v := ?vC49) rfl (by kernel_rfl) (by kernel_rfl) (by kernel_rfl) (fun _ _ _ h => h) (Or.inl ⟨by rfl, ?hyC49⟩) hHeld ?_
        case hyC49 => (intro w hSw; (try dsimp only at hSw); go_simp <;> with_reducible rfl)
        try simp only [Act.put, List.setIfInBounds_toArray, List.set_cons_zero, List.set_cons_succ]
        refine wpAnyH_ready (rs := [48]) (by kernel_rfl) (by simp) ?_
        refine AllReadyH.cons (o := { dst := some 95, op := Op.call { callee := Callee.value (Operand.func 43), args := #[Operand.tmp 93, Operand.tmp 94], argTypes := #[49, 49] }, type := 49, pos := "laws.go:257", after := #[{ on := 46, ground := Ground.data }, { on := 47, ground := Ground.data }, { on := 45, ground := Ground.chain }, { on := 45, ground := Ground.guard }], guard := some (45, true) }) rfl (fun K hK => ?_) AllReadyH.nil
        go_simp
        refine (M3.out _ hHeld.1).mono ?_
        rintro r wy ⟨⟨gS, cS, rfl, HSm⟩, hy⟩
        have hz : Below y.heap.size y wy := grow_on hHeld.1 hy
        clear hHeld hy
        refine hK.out _ _ (HS.out _ hz) (fun hHeld => ?_)
        clear hK K hz
        try simp only [Act.put, List.setIfInBounds_toArray, List.set_cons_zero, List.set_cons_succ]
        refine wpAnyH_ready (rs := [50]) (by kernel_rfl) (by simp) ?_
        refine AllReadyH.cons (o := { dst := some 97, op := Op.call { callee := Callee.value (Operand.func 45), args := #[Operand.tmp 95, Operand.tmp 96], argTypes := #[49, 49] }, type := 4, pos := "laws.go:257", after := #[{ on := 48, ground := Ground.data }, { on := 49, ground := Ground.data }, { on := 48, ground := Ground.chain }, { on := 45, ground := Ground.guard }], guard := some (45, true) }) rfl (fun K hK => ?_) AllReadyH.nil
        go_simp
        refine (S2.out _ _ _ hHeld.1 HSm).mono ?_
        rintro r wy ⟨rfl, hy⟩
        have hz : Below y.heap.size y wy := grow_on hHeld.1 hy
        clear hHeld hy HSm
        refine hK.out _ _ (HS.out _ hz) (fun hHeld => ?_)
        clear hK K hz
        try simp only [Act.put, List.setIfInBounds_toArray, List.set_cons_zero, List.set_cons_succ]
        refine wpAnyH_take (i := 51) (oi := { dst := some 98, op := Op.pick (Operand.tmp 92) (Operand.tmp 97) (Operand.const (Value.bool false)), type := 4, pos := "laws.go:257", after := #[{ on := 45, ground := Ground.data }, { on := 50, ground := Ground.data }], guard := none }) (v := ?vC51) rfl (by kernel_rfl) (by kernel_rfl) (by kernel_rfl) (fun _ _ _ h => h) (Or.inl ⟨by rfl, ?hyC51⟩) hHeld ?_
        case hyC51 => (intro w hSw; (try dsimp only at hSw); go_simp <;> with_reducible rfl)
        try simp only [Act.put, List.setIfInBounds_toArray, List.set_cons_zero, List.set_cons_succ]
        refine wpAnyH_take (i := 52) (oi := { dst := some 99, op := Op.move (Operand.tmp 98), type := 4, pos := "laws.go:257", after := #[{ on := 51, ground := Ground.data }, { on := 50, ground := Ground.chain }], guard := none }) (v := ?vC52) rfl (by kernel_rfl) (by kernel_rfl) (by kernel_rfl) (fun _ _ _ h => h) (Or.inl ⟨by rfl, ?hyC52⟩) hHeld ?_
        case hyC52 => (intro w hSw; (try dsimp only at hSw); go_simp <;> with_reducible rfl)
        try simp only [Act.put, List.setIfInBounds_toArray, List.set_cons_zero, List.set_cons_succ]
        refine wpAnyH_take (i := 53) (oi := { dst := some 100, op := Op.load 49 (Operand.tmp 3), type := 49, pos := "laws.go:257", after := #[{ on := 52, ground := Ground.guard }], guard := some (52, true) }) (v := ?vC53) rfl (by kernel_rfl) (by kernel_rfl) (by kernel_rfl) (fun _ _ _ h => h) (Or.inl ⟨by rfl, ?hyC53⟩) hHeld ?_
        case hyC53 => (intro w hSw; (try dsimp only at hSw); go_simp <;> with_reducible rfl)
        try simp only [Act.put, List.setIfInBounds_toArray, List.set_cons_zero, List.set_cons_succ]
        refine wpAnyH_ready (rs := [54]) (by kernel_rfl) (by simp) ?_
        refine AllReadyH.cons (o := { dst := some 101, op := Op.call { callee := Callee.value (Operand.func 49), args := #[Operand.tmp 100], argTypes := #[49] }, type := 4, pos := "laws.go:257", after := #[{ on := 53, ground := Ground.data }, { on := 52, ground := Ground.chain }, { on := 52, ground := Ground.guard }], guard := some (52, true) }) rfl (fun K hK => ?_) AllReadyH.nil
        go_simp
        refine (OA.out _ hHeld.1).mono ?_
        rintro r wy ⟨rfl, hy⟩
        have hz : Below y.heap.size y wy := grow_on hHeld.1 hy
        clear hHeld hy
        refine hK.out _ _ (HS.out _ hz) (fun hHeld => ?_)
        clear hK K hz
        try simp only [Act.put, List.setIfInBounds_toArray, List.set_cons_zero, List.set_cons_succ]
        refine wpAnyH_take (i := 55) (oi := { dst := some 102, op := Op.unOp UnOp.not 4 (Operand.tmp 101), type := 4, pos := "laws.go:257", after := #[{ on := 54, ground := Ground.data }, { on := 52, ground := Ground.guard }], guard := some (52, true) }) (v := ?vC55) rfl (by kernel_rfl) (by kernel_rfl) (by kernel_rfl) (fun _ _ _ h => h) (Or.inl ⟨by rfl, ?hyC55⟩) hHeld ?_
        case hyC55 => (intro w hSw; (try dsimp only at hSw); go_simp <;> with_reducible rfl)
        try simp only [Act.put, List.setIfInBounds_toArray, List.set_cons_zero, List.set_cons_succ]
        refine wpAnyH_take (i := 56) (oi := { dst := some 103, op := Op.move (Operand.tmp 102), type := 4, pos := "laws.go:257", after := #[{ on := 55, ground := Ground.data }, { on := 54, ground := Ground.chain }, { on := 52, ground := Ground.guard }], guard := some (52, true) }) (v := ?vC56) rfl (by kernel_rfl) (by kernel_rfl) (by kernel_rfl) (fun _ _ _ h => h) (Or.inl ⟨by rfl, ?hyC56⟩) hHeld ?_
        case hyC56 => (intro w hSw; (try dsimp only at hSw); go_simp <;> with_reducible rfl)
        try simp only [Act.put, List.setIfInBounds_toArray, List.set_cons_zero, List.set_cons_succ]
        refine wpAnyH_take (i := 57) (oi := { dst := some 104, op := Op.load 49 (Operand.tmp 4), type := 49, pos := "laws.go:257", after := #[{ on := 56, ground := Ground.guard }], guard := some (56, false) }) (v := ?vC57) rfl (by kernel_rfl) (by kernel_rfl) (by kernel_rfl) (fun _ _ _ h => h) (Or.inl ⟨by rfl, ?hyC57⟩) hHeld ?_
        case hyC57 => (intro w hSw; (try dsimp only at hSw); go_simp <;> with_reducible rfl)
        try simp only [Act.put, List.setIfInBounds_toArray, List.set_cons_zero, List.set_cons_succ]
        refine wpAnyH_ready (rs := [58]) (by kernel_rfl) (by simp) ?_
        refine AllReadyH.cons (o := { dst := some 105, op := Op.call { callee := Callee.value (Operand.func 49), args := #[Operand.tmp 104], argTypes := #[49] }, type := 4, pos := "laws.go:257", after := #[{ on := 57, ground := Ground.data }, { on := 56, ground := Ground.chain }, { on := 56, ground := Ground.guard }], guard := some (56, false) }) rfl (fun K hK => ?_) AllReadyH.nil
        go_simp
        refine (OB.out _ hHeld.1).mono ?_
        rintro r wy ⟨rfl, hy⟩
        have hz : Below y.heap.size y wy := grow_on hHeld.1 hy
        clear hHeld hy
        refine hK.out _ _ (HS.out _ hz) (fun hHeld => ?_)
        clear hK K hz
        try simp only [Act.put, List.setIfInBounds_toArray, List.set_cons_zero, List.set_cons_succ]
        refine wpAnyH_take (i := 59) (oi := { dst := some 106, op := Op.unOp UnOp.not 4 (Operand.tmp 105), type := 4, pos := "laws.go:257", after := #[{ on := 58, ground := Ground.data }, { on := 56, ground := Ground.guard }], guard := some (56, false) }) (v := ?vC59) rfl (by kernel_rfl) (by kernel_rfl) (by kernel_rfl) (fun _ _ _ h => h) (Or.inl ⟨by rfl, ?hyC59⟩) hHeld ?_
        case hyC59 => (intro w hSw; (try dsimp only at hSw); go_simp <;> with_reducible rfl)
        try simp only [Act.put, List.setIfInBounds_toArray, List.set_cons_zero, List.set_cons_succ]
        refine wpAnyH_take (i := 60) (oi := { dst := some 107, op := Op.pick (Operand.tmp 103) (Operand.const (Value.bool true)) (Operand.tmp 106), type := 4, pos := "laws.go:257", after := #[{ on := 56, ground := Ground.data }, { on := 59, ground := Ground.data }, { on := 52, ground := Ground.guard }], guard := some (52, true) }) (v := ?vC60) rfl (by kernel_rfl) (by kernel_rfl) (by kernel_rfl) (fun _ _ _ h => h) (Or.inl ⟨by rfl, ?hyC60⟩) hHeld ?_
        case hyC60 => (intro w hSw; (try dsimp only at hSw); go_simp <;> with_reducible rfl)
        try simp only [Act.put, List.setIfInBounds_toArray, List.set_cons_zero, List.set_cons_succ]
        refine wpAnyH_take (i := 61) (oi := { dst := some 108, op := Op.move (Operand.tmp 107), type := 4, pos := "laws.go:257", after := #[{ on := 60, ground := Ground.data }, { on := 58, ground := Ground.chain }, { on := 52, ground := Ground.guard }], guard := some (52, true) }) (v := ?vC61) rfl (by kernel_rfl) (by kernel_rfl) (by kernel_rfl) (fun _ _ _ h => h) (Or.inl ⟨by rfl, ?hyC61⟩) hHeld ?_
        case hyC61 => (intro w hSw; (try dsimp only at hSw); go_simp <;> with_reducible rfl)
        try simp only [Act.put, List.setIfInBounds_toArray, List.set_cons_zero, List.set_cons_succ]
        refine wpAnyH_take (i := 62) (oi := { dst := some 109, op := Op.load 49 (Operand.tmp 5), type := 49, pos := "laws.go:257", after := #[{ on := 61, ground := Ground.guard }], guard := some (61, false) }) (v := undef) rfl (by kernel_rfl) (by kernel_rfl) (by kernel_rfl) (fun _ _ _ h => h) (Or.inr ⟨by rfl, rfl⟩) hHeld ?_
        try simp only [Act.put, List.setIfInBounds_toArray, List.set_cons_zero, List.set_cons_succ]
        refine wpAnyH_ready (rs := [63]) (by kernel_rfl) (by simp) ?_
        refine AllReadyH.cons (o := { dst := some 110, op := Op.call { callee := Callee.value (Operand.func 49), args := #[Operand.tmp 109], argTypes := #[49] }, type := 4, pos := "laws.go:257", after := #[{ on := 62, ground := Ground.data }, { on := 61, ground := Ground.chain }, { on := 61, ground := Ground.guard }], guard := some (61, false) }) rfl (fun K hK => ?_) AllReadyH.nil
        go_simp
        refine hK.out _ _ hHeld (fun hHeld => ?_)
        clear hK K
        try simp only [Act.put, List.setIfInBounds_toArray, List.set_cons_zero, List.set_cons_succ]
        refine wpAnyH_take (i := 64) (oi := { dst := some 111, op := Op.pick (Operand.tmp 108) (Operand.const (Value.bool true)) (Operand.tmp 110), type := 4, pos := "laws.go:257", after := #[{ on := 61, ground := Ground.data }, { on := 63, ground := Ground.data }, { on := 52, ground := Ground.guard }], guard := some (52, true) }) (v := ?vC64) rfl (by kernel_rfl) (by kernel_rfl) (by kernel_rfl) (fun _ _ _ h => h) (Or.inl ⟨by rfl, ?hyC64⟩) hHeld ?_
        case hyC64 => (intro w hSw; (try dsimp only at hSw); go_simp <;> with_reducible rfl)
        try simp only [Act.put, List.setIfInBounds_toArray, List.set_cons_zero, List.set_cons_succ]
        refine wpAnyH_take (i := 65) (oi := { dst := some 112, op := Op.pick (Operand.tmp 99) (Operand.tmp 111) (Operand.const (Value.bool false)), type := 4, pos := "laws.go:257", after := #[{ on := 52, ground := Ground.data }, { on := 64, ground := Ground.data }], guard := none }) (v := ?vC65) rfl (by kernel_rfl) (by kernel_rfl) (by kernel_rfl) (fun _ _ _ h => h) (Or.inl ⟨by rfl, ?hyC65⟩) hHeld ?_
        case hyC65 => (intro w hSw; (try dsimp only at hSw); go_simp <;> with_reducible rfl)
        try simp only [Act.put, List.setIfInBounds_toArray, List.set_cons_zero, List.set_cons_succ]
        refine wpAnyH_take (i := 66) (oi := { dst := some 2, op := Op.assign (Operand.tmp 112), type := 4, pos := "laws.go:257", after := #[{ on := 65, ground := Ground.data }, { on := 63, ground := Ground.chain }, { on := 0, ground := Ground.phase }, { on := 1, ground := Ground.phase }, { on := 2, ground := Ground.phase }, { on := 3, ground := Ground.phase }, { on := 4, ground := Ground.phase }, { on := 5, ground := Ground.phase }, { on := 6, ground := Ground.phase }, { on := 7, ground := Ground.phase }, { on := 8, ground := Ground.phase }, { on := 9, ground := Ground.phase }, { on := 10, ground := Ground.phase }, { on := 11, ground := Ground.phase }, { on := 12, ground := Ground.phase }, { on := 13, ground := Ground.phase }, { on := 14, ground := Ground.phase }, { on := 15, ground := Ground.phase }, { on := 16, ground := Ground.phase }, { on := 17, ground := Ground.phase }, { on := 18, ground := Ground.phase }, { on := 19, ground := Ground.phase }, { on := 20, ground := Ground.phase }, { on := 21, ground := Ground.phase }, { on := 22, ground := Ground.phase }, { on := 23, ground := Ground.phase }, { on := 24, ground := Ground.phase }, { on := 25, ground := Ground.phase }, { on := 26, ground := Ground.phase }, { on := 27, ground := Ground.phase }, { on := 28, ground := Ground.phase }, { on := 29, ground := Ground.phase }, { on := 30, ground := Ground.phase }, { on := 31, ground := Ground.phase }, { on := 32, ground := Ground.phase }, { on := 33, ground := Ground.phase }, { on := 34, ground := Ground.phase }, { on := 35, ground := Ground.phase }, { on := 36, ground := Ground.phase }, { on := 37, ground := Ground.phase }, { on := 38, ground := Ground.phase }, { on := 39, ground := Ground.phase }, { on := 40, ground := Ground.phase }, { on := 41, ground := Ground.phase }, { on := 42, ground := Ground.phase }, { on := 43, ground := Ground.phase }, { on := 44, ground := Ground.phase }, { on := 45, ground := Ground.phase }, { on := 46, ground := Ground.phase }, { on := 47, ground := Ground.phase }, { on := 48, ground := Ground.phase }, { on := 49, ground := Ground.phase }, { on := 50, ground := Ground.phase }, { on := 51, ground := Ground.phase }, { on := 52, ground := Ground.phase }, { on := 53, ground := Ground.phase }, { on := 54, ground := Ground.phase }, { on := 55, ground := Ground.phase }, { on := 56, ground := Ground.phase }, { on := 57, ground := Ground.phase }, { on := 58, ground := Ground.phase }, { on := 59, ground := Ground.phase }, { on := 60, ground := Ground.phase }, { on := 61, ground := Ground.phase }, { on := 62, ground := Ground.phase }, { on := 63, ground := Ground.phase }, { on := 64, ground := Ground.phase }, { on := 65, ground := Ground.phase }], guard := none }) (v := ?vC66) rfl (by kernel_rfl) (by kernel_rfl) (by kernel_rfl) (fun _ _ _ h => h) (Or.inl ⟨by rfl, ?hyC66⟩) hHeld ?_
        case hyC66 => (intro w hSw; (try dsimp only at hSw); go_simp <;> with_reducible rfl)
        try simp only [Act.put, List.setIfInBounds_toArray, List.set_cons_zero, List.set_cons_succ]
        refine wpAnyH_done (by kernel_rfl) ?_ _
        go_wp2
        go_ret
        exact ⟨rfl, grow_on BY.out hHeld.1⟩
      | true =>
        have hm := HOK.out ha hb
        rw [ha] at OA
        rw [hb] at OB
        rw [hm] at OM
        clear ha hb hm HOK
        refine wp_region_held_drew (S := fun w' => Below y.heap.size y w' ∧ w'.cell? ⟨w1.heap.size, 0, none⟩ = some (.slice (some ⟨g1, 0, none⟩) p1.length c1) ∧ w'.cell? ⟨w1.heap.size, 1, none⟩ = some (.int .i64 s1) ∧ w'.cell? ⟨w1.heap.size, 2, none⟩ = some (.int .i64 e1) ∧ w'.cell? ⟨w1.heap.size, 3, none⟩ = some (.string n1) ∧ w'.cell? ⟨(w1.heap.size + 1), 0, none⟩ = some (.slice (some ⟨g2, 0, none⟩) p2.length c2) ∧ w'.cell? ⟨(w1.heap.size + 1), 1, none⟩ = some (.int .i64 s2) ∧ w'.cell? ⟨(w1.heap.size + 1), 2, none⟩ = some (.int .i64 e2) ∧ w'.cell? ⟨(w1.heap.size + 1), 3, none⟩ = some (.string n2) ∧ w'.cell? ⟨w2.heap.size, 0, none⟩ = some (.slice (some ⟨g5, 0, none⟩) p2.length c5) ∧ w'.cell? ⟨w2.heap.size, 1, none⟩ = some (.int .i64 s2) ∧ w'.cell? ⟨w2.heap.size, 2, none⟩ = some (.int .i64 e2) ∧ w'.cell? ⟨w2.heap.size, 3, none⟩ = some (.string n2)) (by kernel_rfl) (HS.out _ kz) (fun hHeld => ?_)
        refine wpAnyH_take (i := 0) (oi := { dst := some 47, op := Op.fieldAddr 49 (Operand.tmp 5) 2, type := 0, pos := "laws.go:257", after := #[], guard := none }) (v := ?vD0) rfl (by kernel_rfl) (by kernel_rfl) (by kernel_rfl) (fun _ _ _ h => h) (Or.inl ⟨by rfl, ?hyD0⟩) hHeld ?_
        case hyD0 => (intro w hSw; (try dsimp only at hSw); go_simp <;> with_reducible rfl)
        try simp only [Act.put, List.setIfInBounds_toArray, List.set_cons_zero, List.set_cons_succ]
        refine wpAnyH_take (i := 1) (oi := { dst := some 48, op := Op.load 3 (Operand.tmp 47), type := 3, pos := "laws.go:257", after := #[{ on := 0, ground := Ground.data }], guard := none }) (v := ?vD1) rfl (by kernel_rfl) (by kernel_rfl) (by kernel_rfl) (fun _ _ _ h => h) (Or.inl ⟨by rfl, ?hyD1⟩) hHeld ?_
        case hyD1 => (intro w hSw; (try dsimp only at hSw); go_simp <;> with_reducible rfl)
        try simp only [Act.put, List.setIfInBounds_toArray, List.set_cons_zero, List.set_cons_succ]
        refine wpAnyH_take (i := 2) (oi := { dst := some 49, op := Op.fieldAddr 49 (Operand.tmp 4) 2, type := 0, pos := "laws.go:257", after := #[], guard := none }) (v := ?vD2) rfl (by kernel_rfl) (by kernel_rfl) (by kernel_rfl) (fun _ _ _ h => h) (Or.inl ⟨by rfl, ?hyD2⟩) hHeld ?_
        case hyD2 => (intro w hSw; (try dsimp only at hSw); go_simp <;> with_reducible rfl)
        try simp only [Act.put, List.setIfInBounds_toArray, List.set_cons_zero, List.set_cons_succ]
        refine wpAnyH_take (i := 3) (oi := { dst := some 50, op := Op.load 3 (Operand.tmp 49), type := 3, pos := "laws.go:257", after := #[{ on := 2, ground := Ground.data }], guard := none }) (v := ?vD3) rfl (by kernel_rfl) (by kernel_rfl) (by kernel_rfl) (fun _ _ _ h => h) (Or.inl ⟨by rfl, ?hyD3⟩) hHeld ?_
        case hyD3 => (intro w hSw; (try dsimp only at hSw); go_simp <;> with_reducible rfl)
        try simp only [Act.put, List.setIfInBounds_toArray, List.set_cons_zero, List.set_cons_succ]
        refine wpAnyH_take (i := 4) (oi := { dst := some 51, op := Op.binOp BinOp.eql 3 (Operand.tmp 48) (Operand.tmp 50) 3, type := 4, pos := "laws.go:257", after := #[{ on := 1, ground := Ground.data }, { on := 3, ground := Ground.data }], guard := none }) (v := ?vD4) rfl (by kernel_rfl) (by kernel_rfl) (by kernel_rfl) (fun _ _ _ h => h) (Or.inl ⟨by rfl, ?hyD4⟩) hHeld ?_
        case hyD4 => (intro w hSw; (try dsimp only at hSw); go_simp <;> with_reducible rfl)
        try simp only [Act.put, List.setIfInBounds_toArray, List.set_cons_zero, List.set_cons_succ]
        refine wpAnyH_take (i := 5) (oi := { dst := some 52, op := Op.move (Operand.tmp 51), type := 4, pos := "laws.go:257", after := #[{ on := 4, ground := Ground.data }], guard := none }) (v := ?vD5) rfl (by kernel_rfl) (by kernel_rfl) (by kernel_rfl) (fun _ _ _ h => h) (Or.inl ⟨by rfl, ?hyD5⟩) hHeld ?_
        case hyD5 => (intro w hSw; (try dsimp only at hSw); go_simp <;> with_reducible rfl)
        try simp only [Act.put, List.setIfInBounds_toArray, List.set_cons_zero, List.set_cons_succ]
        refine wpAnyH_take (i := 6) (oi := { dst := some 53, op := Op.fieldAddr 49 (Operand.tmp 5) 3, type := 0, pos := "laws.go:257", after := #[{ on := 5, ground := Ground.guard }], guard := some (5, true) }) (v := ?vD6) rfl (by kernel_rfl) (by kernel_rfl) (by kernel_rfl) (fun _ _ _ h => h) (Or.inl ⟨by rfl, ?hyD6⟩) hHeld ?_
        case hyD6 => (intro w hSw; (try dsimp only at hSw); go_simp <;> with_reducible rfl)
        try simp only [Act.put, List.setIfInBounds_toArray, List.set_cons_zero, List.set_cons_succ]
        refine wpAnyH_take (i := 7) (oi := { dst := some 54, op := Op.load 9 (Operand.tmp 53), type := 9, pos := "laws.go:257", after := #[{ on := 6, ground := Ground.data }, { on := 5, ground := Ground.guard }], guard := some (5, true) }) (v := ?vD7) rfl (by kernel_rfl) (by kernel_rfl) (by kernel_rfl) (fun _ _ _ h => h) (Or.inl ⟨by rfl, ?hyD7⟩) hHeld ?_
        case hyD7 => (intro w hSw; (try dsimp only at hSw); go_simp <;> with_reducible rfl)
        try simp only [Act.put, List.setIfInBounds_toArray, List.set_cons_zero, List.set_cons_succ]
        refine wpAnyH_take (i := 8) (oi := { dst := some 55, op := Op.fieldAddr 49 (Operand.tmp 4) 3, type := 0, pos := "laws.go:257", after := #[{ on := 5, ground := Ground.guard }], guard := some (5, true) }) (v := ?vD8) rfl (by kernel_rfl) (by kernel_rfl) (by kernel_rfl) (fun _ _ _ h => h) (Or.inl ⟨by rfl, ?hyD8⟩) hHeld ?_
        case hyD8 => (intro w hSw; (try dsimp only at hSw); go_simp <;> with_reducible rfl)
        try simp only [Act.put, List.setIfInBounds_toArray, List.set_cons_zero, List.set_cons_succ]
        refine wpAnyH_take (i := 9) (oi := { dst := some 56, op := Op.load 9 (Operand.tmp 55), type := 9, pos := "laws.go:257", after := #[{ on := 8, ground := Ground.data }, { on := 5, ground := Ground.guard }], guard := some (5, true) }) (v := ?vD9) rfl (by kernel_rfl) (by kernel_rfl) (by kernel_rfl) (fun _ _ _ h => h) (Or.inl ⟨by rfl, ?hyD9⟩) hHeld ?_
        case hyD9 => (intro w hSw; (try dsimp only at hSw); go_simp <;> with_reducible rfl)
        try simp only [Act.put, List.setIfInBounds_toArray, List.set_cons_zero, List.set_cons_succ]
        refine wpAnyH_take (i := 10) (oi := { dst := some 57, op := Op.binOp BinOp.eql 9 (Operand.tmp 54) (Operand.tmp 56) 9, type := 4, pos := "laws.go:257", after := #[{ on := 7, ground := Ground.data }, { on := 9, ground := Ground.data }, { on := 5, ground := Ground.guard }], guard := some (5, true) }) (v := ?vD10) rfl (by kernel_rfl) (by kernel_rfl) (by kernel_rfl) (fun _ _ _ h => h) (Or.inl ⟨by rfl, ?hyD10⟩) hHeld ?_
        case hyD10 => (intro w hSw; (try dsimp only at hSw); go_simp <;> with_reducible rfl)
        try simp only [Act.put, List.setIfInBounds_toArray, List.set_cons_zero, List.set_cons_succ]
        refine wpAnyH_take (i := 11) (oi := { dst := some 58, op := Op.pick (Operand.tmp 52) (Operand.tmp 57) (Operand.const (Value.bool false)), type := 4, pos := "laws.go:257", after := #[{ on := 5, ground := Ground.data }, { on := 10, ground := Ground.data }], guard := none }) (v := ?vD11) rfl (by kernel_rfl) (by kernel_rfl) (by kernel_rfl) (fun _ _ _ h => h) (Or.inl ⟨by rfl, ?hyD11⟩) hHeld ?_
        case hyD11 => (intro w hSw; (try dsimp only at hSw); go_simp <;> with_reducible rfl)
        try simp only [Act.put, List.setIfInBounds_toArray, List.set_cons_zero, List.set_cons_succ]
        refine wpAnyH_take (i := 12) (oi := { dst := some 59, op := Op.move (Operand.tmp 58), type := 4, pos := "laws.go:257", after := #[{ on := 11, ground := Ground.data }, { on := 5, ground := Ground.chain }], guard := none }) (v := ?vD12) rfl (by kernel_rfl) (by kernel_rfl) (by kernel_rfl) (fun _ _ _ h => h) (Or.inl ⟨by rfl, ?hyD12⟩) hHeld ?_
        case hyD12 => (intro w hSw; (try dsimp only at hSw); go_simp <;> with_reducible rfl)
        try simp only [Act.put, List.setIfInBounds_toArray, List.set_cons_zero, List.set_cons_succ]
        refine wpAnyH_take (i := 13) (oi := { dst := some 60, op := Op.fieldAddr 49 (Operand.tmp 5) 0, type := 0, pos := "laws.go:257", after := #[{ on := 12, ground := Ground.guard }], guard := some (12, true) }) (v := ?vD13) rfl (by kernel_rfl) (by kernel_rfl) (by kernel_rfl) (fun _ _ _ h => h) (Or.inl ⟨by rfl, ?hyD13⟩) hHeld ?_
        case hyD13 => (intro w hSw; (try dsimp only at hSw); go_simp <;> with_reducible rfl)
        try simp only [Act.put, List.setIfInBounds_toArray, List.set_cons_zero, List.set_cons_succ]
        refine wpAnyH_take (i := 14) (oi := { dst := some 61, op := Op.load 24 (Operand.tmp 60), type := 24, pos := "laws.go:257", after := #[{ on := 13, ground := Ground.data }, { on := 12, ground := Ground.guard }], guard := some (12, true) }) (v := ?vD14) rfl (by kernel_rfl) (by kernel_rfl) (by kernel_rfl) (fun _ _ _ h => h) (Or.inl ⟨by rfl, ?hyD14⟩) hHeld ?_
        case hyD14 => (intro w hSw; (try dsimp only at hSw); go_simp <;> with_reducible rfl)
        try simp only [Act.put, List.setIfInBounds_toArray, List.set_cons_zero, List.set_cons_succ]
        refine wpAnyH_take (i := 15) (oi := { dst := some 62, op := Op.fieldAddr 49 (Operand.tmp 4) 0, type := 0, pos := "laws.go:257", after := #[{ on := 12, ground := Ground.guard }], guard := some (12, true) }) (v := ?vD15) rfl (by kernel_rfl) (by kernel_rfl) (by kernel_rfl) (fun _ _ _ h => h) (Or.inl ⟨by rfl, ?hyD15⟩) hHeld ?_
        case hyD15 => (intro w hSw; (try dsimp only at hSw); go_simp <;> with_reducible rfl)
        try simp only [Act.put, List.setIfInBounds_toArray, List.set_cons_zero, List.set_cons_succ]
        refine wpAnyH_take (i := 16) (oi := { dst := some 63, op := Op.load 24 (Operand.tmp 62), type := 24, pos := "laws.go:257", after := #[{ on := 15, ground := Ground.data }, { on := 12, ground := Ground.guard }], guard := some (12, true) }) (v := ?vD16) rfl (by kernel_rfl) (by kernel_rfl) (by kernel_rfl) (fun _ _ _ h => h) (Or.inl ⟨by rfl, ?hyD16⟩) hHeld ?_
        case hyD16 => (intro w hSw; (try dsimp only at hSw); go_simp <;> with_reducible rfl)
        try simp only [Act.put, List.setIfInBounds_toArray, List.set_cons_zero, List.set_cons_succ]
        refine wpAnyH_ready (rs := [17]) (by kernel_rfl) (by simp) ?_
        refine AllReadyH.cons (o := { dst := some 64, op := Op.call { callee := Callee.value (Operand.func 18), args := #[Operand.tmp 61, Operand.tmp 63], argTypes := #[24, 24] }, type := 4, pos := "laws.go:257", after := #[{ on := 14, ground := Ground.data }, { on := 16, ground := Ground.data }, { on := 12, ground := Ground.chain }, { on := 12, ground := Ground.guard }], guard := some (12, true) }) rfl (fun K hK => ?_) AllReadyH.nil
        go_simp
        refine (CS.out _ hHeld.1).mono ?_
        rintro r wy ⟨rfl, hy⟩
        have hz : Below y.heap.size y wy := grow_on hHeld.1 hy
        clear hHeld hy
        refine hK.out _ _ (HS.out _ hz) (fun hHeld => ?_)
        clear hK K hz
        try simp only [Act.put, List.setIfInBounds_toArray, List.set_cons_zero, List.set_cons_succ]
        refine wpAnyH_take (i := 18) (oi := { dst := some 65, op := Op.pick (Operand.tmp 59) (Operand.tmp 64) (Operand.const (Value.bool false)), type := 4, pos := "laws.go:257", after := #[{ on := 12, ground := Ground.data }, { on := 17, ground := Ground.data }], guard := none }) (v := ?vD18) rfl (by kernel_rfl) (by kernel_rfl) (by kernel_rfl) (fun _ _ _ h => h) (Or.inl ⟨by rfl, ?hyD18⟩) hHeld ?_
        case hyD18 => (intro w hSw; (try dsimp only at hSw); go_simp <;> with_reducible rfl)
        try simp only [Act.put, List.setIfInBounds_toArray, List.set_cons_zero, List.set_cons_succ]
        refine wpAnyH_take (i := 19) (oi := { dst := some 66, op := Op.move (Operand.tmp 65), type := 4, pos := "laws.go:257", after := #[{ on := 18, ground := Ground.data }, { on := 17, ground := Ground.chain }], guard := none }) (v := ?vD19) rfl (by kernel_rfl) (by kernel_rfl) (by kernel_rfl) (fun _ _ _ h => h) (Or.inl ⟨by rfl, ?hyD19⟩) hHeld ?_
        case hyD19 => (intro w hSw; (try dsimp only at hSw); go_simp <;> with_reducible rfl)
        try simp only [Act.put, List.setIfInBounds_toArray, List.set_cons_zero, List.set_cons_succ]
        refine wpAnyH_take (i := 20) (oi := { dst := some 67, op := Op.fieldAddr 49 (Operand.tmp 5) 1, type := 0, pos := "laws.go:257", after := #[{ on := 19, ground := Ground.guard }], guard := some (19, true) }) (v := ?vD20) rfl (by kernel_rfl) (by kernel_rfl) (by kernel_rfl) (fun _ _ _ h => h) (Or.inl ⟨by rfl, ?hyD20⟩) hHeld ?_
        case hyD20 => (intro w hSw; (try dsimp only at hSw); go_simp <;> with_reducible rfl)
        try simp only [Act.put, List.setIfInBounds_toArray, List.set_cons_zero, List.set_cons_succ]
        refine wpAnyH_take (i := 21) (oi := { dst := some 68, op := Op.load 3 (Operand.tmp 67), type := 3, pos := "laws.go:257", after := #[{ on := 20, ground := Ground.data }, { on := 19, ground := Ground.guard }], guard := some (19, true) }) (v := ?vD21) rfl (by kernel_rfl) (by kernel_rfl) (by kernel_rfl) (fun _ _ _ h => h) (Or.inl ⟨by rfl, ?hyD21⟩) hHeld ?_
        case hyD21 => (intro w hSw; (try dsimp only at hSw); go_simp <;> with_reducible rfl)
        try simp only [Act.put, List.setIfInBounds_toArray, List.set_cons_zero, List.set_cons_succ]
        refine wpAnyH_take (i := 22) (oi := { dst := some 69, op := Op.fieldAddr 49 (Operand.tmp 4) 1, type := 0, pos := "laws.go:257", after := #[{ on := 19, ground := Ground.guard }], guard := some (19, true) }) (v := ?vD22) rfl (by kernel_rfl) (by kernel_rfl) (by kernel_rfl) (fun _ _ _ h => h) (Or.inl ⟨by rfl, ?hyD22⟩) hHeld ?_
        case hyD22 => (intro w hSw; (try dsimp only at hSw); go_simp <;> with_reducible rfl)
        try simp only [Act.put, List.setIfInBounds_toArray, List.set_cons_zero, List.set_cons_succ]
        refine wpAnyH_take (i := 23) (oi := { dst := some 70, op := Op.load 3 (Operand.tmp 69), type := 3, pos := "laws.go:257", after := #[{ on := 22, ground := Ground.data }, { on := 19, ground := Ground.guard }], guard := some (19, true) }) (v := ?vD23) rfl (by kernel_rfl) (by kernel_rfl) (by kernel_rfl) (fun _ _ _ h => h) (Or.inl ⟨by rfl, ?hyD23⟩) hHeld ?_
        case hyD23 => (intro w hSw; (try dsimp only at hSw); go_simp <;> with_reducible rfl)
        try simp only [Act.put, List.setIfInBounds_toArray, List.set_cons_zero, List.set_cons_succ]
        refine wpAnyH_take (i := 24) (oi := { dst := some 71, op := Op.binOp BinOp.leq 3 (Operand.tmp 68) (Operand.tmp 70) 3, type := 4, pos := "laws.go:257", after := #[{ on := 21, ground := Ground.data }, { on := 23, ground := Ground.data }, { on := 19, ground := Ground.guard }], guard := some (19, true) }) (v := ?vD24) rfl (by kernel_rfl) (by kernel_rfl) (by kernel_rfl) (fun _ _ _ h => h) (Or.inl ⟨by rfl, ?hyD24⟩) hHeld ?_
        case hyD24 => (intro w hSw; (try dsimp only at hSw); go_simp <;> with_reducible rfl)
        try simp only [Act.put, List.setIfInBounds_toArray, List.set_cons_zero, List.set_cons_succ]
        refine wpAnyH_take (i := 25) (oi := { dst := some 72, op := Op.pick (Operand.tmp 66) (Operand.tmp 71) (Operand.const (Value.bool false)), type := 4, pos := "laws.go:257", after := #[{ on := 19, ground := Ground.data }, { on := 24, ground := Ground.data }], guard := none }) (v := ?vD25) rfl (by kernel_rfl) (by kernel_rfl) (by kernel_rfl) (fun _ _ _ h => h) (Or.inl ⟨by rfl, ?hyD25⟩) hHeld ?_
        case hyD25 => (intro w hSw; (try dsimp only at hSw); go_simp <;> with_reducible rfl)
        try simp only [Act.put, List.setIfInBounds_toArray, List.set_cons_zero, List.set_cons_succ]
        refine wpAnyH_take (i := 26) (oi := { dst := some 73, op := Op.move (Operand.tmp 72), type := 4, pos := "laws.go:257", after := #[{ on := 25, ground := Ground.data }, { on := 19, ground := Ground.chain }], guard := none }) (v := ?vD26) rfl (by kernel_rfl) (by kernel_rfl) (by kernel_rfl) (fun _ _ _ h => h) (Or.inl ⟨by rfl, ?hyD26⟩) hHeld ?_
        case hyD26 => (intro w hSw; (try dsimp only at hSw); go_simp <;> with_reducible rfl)
        try simp only [Act.put, List.setIfInBounds_toArray, List.set_cons_zero, List.set_cons_succ]
        refine wpAnyH_take (i := 27) (oi := { dst := some 74, op := Op.load 49 (Operand.tmp 3), type := 49, pos := "laws.go:257", after := #[{ on := 26, ground := Ground.guard }], guard := some (26, true) }) (v := ?vD27) rfl (by kernel_rfl) (by kernel_rfl) (by kernel_rfl) (fun _ _ _ h => h) (Or.inl ⟨by rfl, ?hyD27⟩) hHeld ?_
        case hyD27 => (intro w hSw; (try dsimp only at hSw); go_simp <;> with_reducible rfl)
        try simp only [Act.put, List.setIfInBounds_toArray, List.set_cons_zero, List.set_cons_succ]
        refine wpAnyH_take (i := 28) (oi := { dst := some 75, op := Op.load 49 (Operand.tmp 4), type := 49, pos := "laws.go:257", after := #[{ on := 26, ground := Ground.guard }], guard := some (26, true) }) (v := ?vD28) rfl (by kernel_rfl) (by kernel_rfl) (by kernel_rfl) (fun _ _ _ h => h) (Or.inl ⟨by rfl, ?hyD28⟩) hHeld ?_
        case hyD28 => (intro w hSw; (try dsimp only at hSw); go_simp <;> with_reducible rfl)
        try simp only [Act.put, List.setIfInBounds_toArray, List.set_cons_zero, List.set_cons_succ]
        refine wpAnyH_ready (rs := [29]) (by kernel_rfl) (by simp) ?_
        refine AllReadyH.cons (o := { dst := some 76, op := Op.call { callee := Callee.value (Operand.func 47), args := #[Operand.tmp 74, Operand.tmp 75], argTypes := #[49, 49] }, type := 4, pos := "laws.go:257", after := #[{ on := 27, ground := Ground.data }, { on := 28, ground := Ground.data }, { on := 26, ground := Ground.chain }, { on := 26, ground := Ground.guard }], guard := some (26, true) }) rfl (fun K hK => ?_) AllReadyH.nil
        go_simp
        refine (CT.out _ hHeld.1).mono ?_
        rintro r wy ⟨rfl, hy⟩
        have hz : Below y.heap.size y wy := grow_on hHeld.1 hy
        clear hHeld hy
        refine hK.out _ _ (HS.out _ hz) (fun hHeld => ?_)
        clear hK K hz
        try simp only [Act.put, List.setIfInBounds_toArray, List.set_cons_zero, List.set_cons_succ]
        refine wpAnyH_take (i := 30) (oi := { dst := some 77, op := Op.move (Operand.tmp 76), type := 4, pos := "laws.go:257", after := #[{ on := 29, ground := Ground.data }, { on := 29, ground := Ground.chain }, { on := 26, ground := Ground.guard }], guard := some (26, true) }) (v := ?vD30) rfl (by kernel_rfl) (by kernel_rfl) (by kernel_rfl) (fun _ _ _ h => h) (Or.inl ⟨by rfl, ?hyD30⟩) hHeld ?_
        case hyD30 => (intro w hSw; (try dsimp only at hSw); go_simp <;> with_reducible rfl)
        try simp only [Act.put, List.setIfInBounds_toArray, List.set_cons_zero, List.set_cons_succ]
        refine wpAnyH_take (i := 31) (oi := { dst := some 78, op := Op.fieldAddr 49 (Operand.tmp 5) 1, type := 0, pos := "laws.go:257", after := #[{ on := 30, ground := Ground.guard }], guard := some (30, false) }) (v := ?vD31) rfl (by kernel_rfl) (by kernel_rfl) (by kernel_rfl) (fun _ _ _ h => h) (Or.inl ⟨by rfl, ?hyD31⟩) hHeld ?_
        case hyD31 => (intro w hSw; (try dsimp only at hSw); go_simp <;> with_reducible rfl)
        try simp only [Act.put, List.setIfInBounds_toArray, List.set_cons_zero, List.set_cons_succ]
        refine wpAnyH_take (i := 32) (oi := { dst := some 79, op := Op.load 3 (Operand.tmp 78), type := 3, pos := "laws.go:257", after := #[{ on := 31, ground := Ground.data }, { on := 30, ground := Ground.guard }], guard := some (30, false) }) (v := ?vD32) rfl (by kernel_rfl) (by kernel_rfl) (by kernel_rfl) (fun _ _ _ h => h) (Or.inl ⟨by rfl, ?hyD32⟩) hHeld ?_
        case hyD32 => (intro w hSw; (try dsimp only at hSw); go_simp <;> with_reducible rfl)
        try simp only [Act.put, List.setIfInBounds_toArray, List.set_cons_zero, List.set_cons_succ]
        refine wpAnyH_take (i := 33) (oi := { dst := some 80, op := Op.fieldAddr 49 (Operand.tmp 4) 1, type := 0, pos := "laws.go:257", after := #[{ on := 30, ground := Ground.guard }], guard := some (30, false) }) (v := ?vD33) rfl (by kernel_rfl) (by kernel_rfl) (by kernel_rfl) (fun _ _ _ h => h) (Or.inl ⟨by rfl, ?hyD33⟩) hHeld ?_
        case hyD33 => (intro w hSw; (try dsimp only at hSw); go_simp <;> with_reducible rfl)
        try simp only [Act.put, List.setIfInBounds_toArray, List.set_cons_zero, List.set_cons_succ]
        refine wpAnyH_take (i := 34) (oi := { dst := some 81, op := Op.load 3 (Operand.tmp 80), type := 3, pos := "laws.go:257", after := #[{ on := 33, ground := Ground.data }, { on := 30, ground := Ground.guard }], guard := some (30, false) }) (v := ?vD34) rfl (by kernel_rfl) (by kernel_rfl) (by kernel_rfl) (fun _ _ _ h => h) (Or.inl ⟨by rfl, ?hyD34⟩) hHeld ?_
        case hyD34 => (intro w hSw; (try dsimp only at hSw); go_simp <;> with_reducible rfl)
        try simp only [Act.put, List.setIfInBounds_toArray, List.set_cons_zero, List.set_cons_succ]
        refine wpAnyH_take (i := 35) (oi := { dst := some 82, op := Op.binOp BinOp.eql 3 (Operand.tmp 79) (Operand.tmp 81) 3, type := 4, pos := "laws.go:257", after := #[{ on := 32, ground := Ground.data }, { on := 34, ground := Ground.data }, { on := 30, ground := Ground.guard }], guard := some (30, false) }) (v := ?vD35) rfl (by kernel_rfl) (by kernel_rfl) (by kernel_rfl) (fun _ _ _ h => h) (Or.inl ⟨by rfl, ?hyD35⟩) hHeld ?_
        case hyD35 => (intro w hSw; (try dsimp only at hSw); go_simp <;> with_reducible rfl)
        try simp only [Act.put, List.setIfInBounds_toArray, List.set_cons_zero, List.set_cons_succ]
        refine wpAnyH_take (i := 36) (oi := { dst := some 83, op := Op.pick (Operand.tmp 77) (Operand.const (Value.bool true)) (Operand.tmp 82), type := 4, pos := "laws.go:257", after := #[{ on := 30, ground := Ground.data }, { on := 35, ground := Ground.data }, { on := 26, ground := Ground.guard }], guard := some (26, true) }) (v := ?vD36) rfl (by kernel_rfl) (by kernel_rfl) (by kernel_rfl) (fun _ _ _ h => h) (Or.inl ⟨by rfl, ?hyD36⟩) hHeld ?_
        case hyD36 => (intro w hSw; (try dsimp only at hSw); go_simp <;> with_reducible rfl)
        try simp only [Act.put, List.setIfInBounds_toArray, List.set_cons_zero, List.set_cons_succ]
        refine wpAnyH_take (i := 37) (oi := { dst := some 84, op := Op.pick (Operand.tmp 73) (Operand.tmp 83) (Operand.const (Value.bool false)), type := 4, pos := "laws.go:257", after := #[{ on := 26, ground := Ground.data }, { on := 36, ground := Ground.data }], guard := none }) (v := ?vD37) rfl (by kernel_rfl) (by kernel_rfl) (by kernel_rfl) (fun _ _ _ h => h) (Or.inl ⟨by rfl, ?hyD37⟩) hHeld ?_
        case hyD37 => (intro w hSw; (try dsimp only at hSw); go_simp <;> with_reducible rfl)
        try simp only [Act.put, List.setIfInBounds_toArray, List.set_cons_zero, List.set_cons_succ]
        refine wpAnyH_take (i := 38) (oi := { dst := some 85, op := Op.move (Operand.tmp 84), type := 4, pos := "laws.go:257", after := #[{ on := 37, ground := Ground.data }, { on := 30, ground := Ground.chain }], guard := none }) (v := ?vD38) rfl (by kernel_rfl) (by kernel_rfl) (by kernel_rfl) (fun _ _ _ h => h) (Or.inl ⟨by rfl, ?hyD38⟩) hHeld ?_
        case hyD38 => (intro w hSw; (try dsimp only at hSw); go_simp <;> with_reducible rfl)
        try simp only [Act.put, List.setIfInBounds_toArray, List.set_cons_zero, List.set_cons_succ]
        refine wpAnyH_take (i := 39) (oi := { dst := some 86, op := Op.load 49 (Operand.tmp 3), type := 49, pos := "laws.go:257", after := #[{ on := 38, ground := Ground.guard }], guard := some (38, true) }) (v := ?vD39) rfl (by kernel_rfl) (by kernel_rfl) (by kernel_rfl) (fun _ _ _ h => h) (Or.inl ⟨by rfl, ?hyD39⟩) hHeld ?_
        case hyD39 => (intro w hSw; (try dsimp only at hSw); go_simp <;> with_reducible rfl)
        try simp only [Act.put, List.setIfInBounds_toArray, List.set_cons_zero, List.set_cons_succ]
        refine wpAnyH_take (i := 40) (oi := { dst := some 87, op := Op.load 49 (Operand.tmp 5), type := 49, pos := "laws.go:257", after := #[{ on := 38, ground := Ground.guard }], guard := some (38, true) }) (v := ?vD40) rfl (by kernel_rfl) (by kernel_rfl) (by kernel_rfl) (fun _ _ _ h => h) (Or.inl ⟨by rfl, ?hyD40⟩) hHeld ?_
        case hyD40 => (intro w hSw; (try dsimp only at hSw); go_simp <;> with_reducible rfl)
        try simp only [Act.put, List.setIfInBounds_toArray, List.set_cons_zero, List.set_cons_succ]
        refine wpAnyH_take (i := 42) (oi := { dst := some 89, op := Op.load 49 (Operand.tmp 5), type := 49, pos := "laws.go:257", after := #[{ on := 38, ground := Ground.guard }], guard := some (38, true) }) (v := ?vD42) rfl (by kernel_rfl) (by kernel_rfl) (by kernel_rfl) (fun _ _ _ h => h) (Or.inl ⟨by rfl, ?hyD42⟩) hHeld ?_
        case hyD42 => (intro w hSw; (try dsimp only at hSw); go_simp <;> with_reducible rfl)
        try simp only [Act.put, List.setIfInBounds_toArray, List.set_cons_zero, List.set_cons_succ]
        refine wpAnyH_ready (rs := [41]) (by kernel_rfl) (by simp) ?_
        refine AllReadyH.cons (o := { dst := some 88, op := Op.call { callee := Callee.value (Operand.func 43), args := #[Operand.tmp 86, Operand.tmp 87], argTypes := #[49, 49] }, type := 49, pos := "laws.go:257", after := #[{ on := 39, ground := Ground.data }, { on := 40, ground := Ground.data }, { on := 38, ground := Ground.chain }, { on := 38, ground := Ground.guard }], guard := some (38, true) }) rfl (fun K hK => ?_) AllReadyH.nil
        go_simp
        refine (M2.out _ hHeld.1).mono ?_
        rintro r wy ⟨⟨gS, cS, rfl, HSm⟩, hy⟩
        have hz : Below y.heap.size y wy := grow_on hHeld.1 hy
        clear hHeld hy
        refine hK.out _ _ (HS.out _ hz) (fun hHeld => ?_)
        clear hK K hz
        try simp only [Act.put, List.setIfInBounds_toArray, List.set_cons_zero, List.set_cons_succ]
        refine wpAnyH_ready (rs := [43]) (by kernel_rfl) (by simp) ?_
        refine AllReadyH.cons (o := { dst := some 90, op := Op.call { callee := Callee.value (Operand.func 45), args := #[Operand.tmp 88, Operand.tmp 89], argTypes := #[49, 49] }, type := 4, pos := "laws.go:257", after := #[{ on := 41, ground := Ground.data }, { on := 42, ground := Ground.data }, { on := 41, ground := Ground.chain }, { on := 38, ground := Ground.guard }], guard := some (38, true) }) rfl (fun K hK => ?_) AllReadyH.nil
        go_simp
        refine (S1.out _ _ _ hHeld.1 HSm).mono ?_
        rintro r wy ⟨rfl, hy⟩
        have hz : Below y.heap.size y wy := grow_on hHeld.1 hy
        clear hHeld hy HSm
        refine hK.out _ _ (HS.out _ hz) (fun hHeld => ?_)
        clear hK K hz
        try simp only [Act.put, List.setIfInBounds_toArray, List.set_cons_zero, List.set_cons_succ]
        refine wpAnyH_take (i := 44) (oi := { dst := some 91, op := Op.pick (Operand.tmp 85) (Operand.tmp 90) (Operand.const (Value.bool false)), type := 4, pos := "laws.go:257", after := #[{ on := 38, ground := Ground.data }, { on := 43, ground := Ground.data }], guard := none }) (v := ?vD44) rfl (by kernel_rfl) (by kernel_rfl) (by kernel_rfl) (fun _ _ _ h => h) (Or.inl ⟨by rfl, ?hyD44⟩) hHeld ?_
        case hyD44 => (intro w hSw; (try dsimp only at hSw); go_simp <;> with_reducible rfl)
        try simp only [Act.put, List.setIfInBounds_toArray, List.set_cons_zero, List.set_cons_succ]
        refine wpAnyH_take (i := 45) (oi := { dst := some 92, op := Op.move (Operand.tmp 91), type := 4, pos := "laws.go:257", after := #[{ on := 44, ground := Ground.data }, { on := 43, ground := Ground.chain }], guard := none }) (v := ?vD45) rfl (by kernel_rfl) (by kernel_rfl) (by kernel_rfl) (fun _ _ _ h => h) (Or.inl ⟨by rfl, ?hyD45⟩) hHeld ?_
        case hyD45 => (intro w hSw; (try dsimp only at hSw); go_simp <;> with_reducible rfl)
        try simp only [Act.put, List.setIfInBounds_toArray, List.set_cons_zero, List.set_cons_succ]
        refine wpAnyH_take (i := 46) (oi := { dst := some 93, op := Op.load 49 (Operand.tmp 4), type := 49, pos := "laws.go:257", after := #[{ on := 45, ground := Ground.guard }], guard := some (45, true) }) (v := ?vD46) rfl (by kernel_rfl) (by kernel_rfl) (by kernel_rfl) (fun _ _ _ h => h) (Or.inl ⟨by rfl, ?hyD46⟩) hHeld ?_
        case hyD46 => (intro w hSw; (try dsimp only at hSw); go_simp <;> with_reducible rfl)
        try simp only [Act.put, List.setIfInBounds_toArray, List.set_cons_zero, List.set_cons_succ]
        refine wpAnyH_take (i := 47) (oi := { dst := some 94, op := Op.load 49 (Operand.tmp 4), type := 49, pos := "laws.go:257", after := #[{ on := 45, ground := Ground.guard }], guard := some (45, true) }) (v := ?vD47) rfl (by kernel_rfl) (by kernel_rfl) (by kernel_rfl) (fun _ _ _ h => h) (Or.inl ⟨by rfl, ?hyD47⟩) hHeld ?_
        case hyD47 => (intro w hSw; (try dsimp only at hSw); go_simp <;> with_reducible rfl)
        try simp only [Act.put, List.setIfInBounds_toArray, List.set_cons_zero, List.set_cons_succ]
        refine wpAnyH_take (i := 49) (oi := { dst := some 96, op := Op.load 49 (Operand.tmp 4), type := 49, pos := "laws.go:257", after := #[{ on := 45, ground := Ground.guard }], guard := some (45, true) }) (v := ?vD49) rfl (by kernel_rfl) (by kernel_rfl) (by kernel_rfl) (fun _ _ _ h => h) (Or.inl ⟨by rfl, ?hyD49⟩) hHeld ?_
        case hyD49 => (intro w hSw; (try dsimp only at hSw); go_simp <;> with_reducible rfl)
        try simp only [Act.put, List.setIfInBounds_toArray, List.set_cons_zero, List.set_cons_succ]
        refine wpAnyH_ready (rs := [48]) (by kernel_rfl) (by simp) ?_
        refine AllReadyH.cons (o := { dst := some 95, op := Op.call { callee := Callee.value (Operand.func 43), args := #[Operand.tmp 93, Operand.tmp 94], argTypes := #[49, 49] }, type := 49, pos := "laws.go:257", after := #[{ on := 46, ground := Ground.data }, { on := 47, ground := Ground.data }, { on := 45, ground := Ground.chain }, { on := 45, ground := Ground.guard }], guard := some (45, true) }) rfl (fun K hK => ?_) AllReadyH.nil
        go_simp
        refine (M3.out _ hHeld.1).mono ?_
        rintro r wy ⟨⟨gS, cS, rfl, HSm⟩, hy⟩
        have hz : Below y.heap.size y wy := grow_on hHeld.1 hy
        clear hHeld hy
        refine hK.out _ _ (HS.out _ hz) (fun hHeld => ?_)
        clear hK K hz
        try simp only [Act.put, List.setIfInBounds_toArray, List.set_cons_zero, List.set_cons_succ]
        refine wpAnyH_ready (rs := [50]) (by kernel_rfl) (by simp) ?_
        refine AllReadyH.cons (o := { dst := some 97, op := Op.call { callee := Callee.value (Operand.func 45), args := #[Operand.tmp 95, Operand.tmp 96], argTypes := #[49, 49] }, type := 4, pos := "laws.go:257", after := #[{ on := 48, ground := Ground.data }, { on := 49, ground := Ground.data }, { on := 48, ground := Ground.chain }, { on := 45, ground := Ground.guard }], guard := some (45, true) }) rfl (fun K hK => ?_) AllReadyH.nil
        go_simp
        refine (S2.out _ _ _ hHeld.1 HSm).mono ?_
        rintro r wy ⟨rfl, hy⟩
        have hz : Below y.heap.size y wy := grow_on hHeld.1 hy
        clear hHeld hy HSm
        refine hK.out _ _ (HS.out _ hz) (fun hHeld => ?_)
        clear hK K hz
        try simp only [Act.put, List.setIfInBounds_toArray, List.set_cons_zero, List.set_cons_succ]
        refine wpAnyH_take (i := 51) (oi := { dst := some 98, op := Op.pick (Operand.tmp 92) (Operand.tmp 97) (Operand.const (Value.bool false)), type := 4, pos := "laws.go:257", after := #[{ on := 45, ground := Ground.data }, { on := 50, ground := Ground.data }], guard := none }) (v := ?vD51) rfl (by kernel_rfl) (by kernel_rfl) (by kernel_rfl) (fun _ _ _ h => h) (Or.inl ⟨by rfl, ?hyD51⟩) hHeld ?_
        case hyD51 => (intro w hSw; (try dsimp only at hSw); go_simp <;> with_reducible rfl)
        try simp only [Act.put, List.setIfInBounds_toArray, List.set_cons_zero, List.set_cons_succ]
        refine wpAnyH_take (i := 52) (oi := { dst := some 99, op := Op.move (Operand.tmp 98), type := 4, pos := "laws.go:257", after := #[{ on := 51, ground := Ground.data }, { on := 50, ground := Ground.chain }], guard := none }) (v := ?vD52) rfl (by kernel_rfl) (by kernel_rfl) (by kernel_rfl) (fun _ _ _ h => h) (Or.inl ⟨by rfl, ?hyD52⟩) hHeld ?_
        case hyD52 => (intro w hSw; (try dsimp only at hSw); go_simp <;> with_reducible rfl)
        try simp only [Act.put, List.setIfInBounds_toArray, List.set_cons_zero, List.set_cons_succ]
        refine wpAnyH_take (i := 53) (oi := { dst := some 100, op := Op.load 49 (Operand.tmp 3), type := 49, pos := "laws.go:257", after := #[{ on := 52, ground := Ground.guard }], guard := some (52, true) }) (v := ?vD53) rfl (by kernel_rfl) (by kernel_rfl) (by kernel_rfl) (fun _ _ _ h => h) (Or.inl ⟨by rfl, ?hyD53⟩) hHeld ?_
        case hyD53 => (intro w hSw; (try dsimp only at hSw); go_simp <;> with_reducible rfl)
        try simp only [Act.put, List.setIfInBounds_toArray, List.set_cons_zero, List.set_cons_succ]
        refine wpAnyH_ready (rs := [54]) (by kernel_rfl) (by simp) ?_
        refine AllReadyH.cons (o := { dst := some 101, op := Op.call { callee := Callee.value (Operand.func 49), args := #[Operand.tmp 100], argTypes := #[49] }, type := 4, pos := "laws.go:257", after := #[{ on := 53, ground := Ground.data }, { on := 52, ground := Ground.chain }, { on := 52, ground := Ground.guard }], guard := some (52, true) }) rfl (fun K hK => ?_) AllReadyH.nil
        go_simp
        refine (OA.out _ hHeld.1).mono ?_
        rintro r wy ⟨rfl, hy⟩
        have hz : Below y.heap.size y wy := grow_on hHeld.1 hy
        clear hHeld hy
        refine hK.out _ _ (HS.out _ hz) (fun hHeld => ?_)
        clear hK K hz
        try simp only [Act.put, List.setIfInBounds_toArray, List.set_cons_zero, List.set_cons_succ]
        refine wpAnyH_take (i := 55) (oi := { dst := some 102, op := Op.unOp UnOp.not 4 (Operand.tmp 101), type := 4, pos := "laws.go:257", after := #[{ on := 54, ground := Ground.data }, { on := 52, ground := Ground.guard }], guard := some (52, true) }) (v := ?vD55) rfl (by kernel_rfl) (by kernel_rfl) (by kernel_rfl) (fun _ _ _ h => h) (Or.inl ⟨by rfl, ?hyD55⟩) hHeld ?_
        case hyD55 => (intro w hSw; (try dsimp only at hSw); go_simp <;> with_reducible rfl)
        try simp only [Act.put, List.setIfInBounds_toArray, List.set_cons_zero, List.set_cons_succ]
        refine wpAnyH_take (i := 56) (oi := { dst := some 103, op := Op.move (Operand.tmp 102), type := 4, pos := "laws.go:257", after := #[{ on := 55, ground := Ground.data }, { on := 54, ground := Ground.chain }, { on := 52, ground := Ground.guard }], guard := some (52, true) }) (v := ?vD56) rfl (by kernel_rfl) (by kernel_rfl) (by kernel_rfl) (fun _ _ _ h => h) (Or.inl ⟨by rfl, ?hyD56⟩) hHeld ?_
        case hyD56 => (intro w hSw; (try dsimp only at hSw); go_simp <;> with_reducible rfl)
        try simp only [Act.put, List.setIfInBounds_toArray, List.set_cons_zero, List.set_cons_succ]
        refine wpAnyH_take (i := 57) (oi := { dst := some 104, op := Op.load 49 (Operand.tmp 4), type := 49, pos := "laws.go:257", after := #[{ on := 56, ground := Ground.guard }], guard := some (56, false) }) (v := ?vD57) rfl (by kernel_rfl) (by kernel_rfl) (by kernel_rfl) (fun _ _ _ h => h) (Or.inl ⟨by rfl, ?hyD57⟩) hHeld ?_
        case hyD57 => (intro w hSw; (try dsimp only at hSw); go_simp <;> with_reducible rfl)
        try simp only [Act.put, List.setIfInBounds_toArray, List.set_cons_zero, List.set_cons_succ]
        refine wpAnyH_ready (rs := [58]) (by kernel_rfl) (by simp) ?_
        refine AllReadyH.cons (o := { dst := some 105, op := Op.call { callee := Callee.value (Operand.func 49), args := #[Operand.tmp 104], argTypes := #[49] }, type := 4, pos := "laws.go:257", after := #[{ on := 57, ground := Ground.data }, { on := 56, ground := Ground.chain }, { on := 56, ground := Ground.guard }], guard := some (56, false) }) rfl (fun K hK => ?_) AllReadyH.nil
        go_simp
        refine (OB.out _ hHeld.1).mono ?_
        rintro r wy ⟨rfl, hy⟩
        have hz : Below y.heap.size y wy := grow_on hHeld.1 hy
        clear hHeld hy
        refine hK.out _ _ (HS.out _ hz) (fun hHeld => ?_)
        clear hK K hz
        try simp only [Act.put, List.setIfInBounds_toArray, List.set_cons_zero, List.set_cons_succ]
        refine wpAnyH_take (i := 59) (oi := { dst := some 106, op := Op.unOp UnOp.not 4 (Operand.tmp 105), type := 4, pos := "laws.go:257", after := #[{ on := 58, ground := Ground.data }, { on := 56, ground := Ground.guard }], guard := some (56, false) }) (v := ?vD59) rfl (by kernel_rfl) (by kernel_rfl) (by kernel_rfl) (fun _ _ _ h => h) (Or.inl ⟨by rfl, ?hyD59⟩) hHeld ?_
        case hyD59 => (intro w hSw; (try dsimp only at hSw); go_simp <;> with_reducible rfl)
        try simp only [Act.put, List.setIfInBounds_toArray, List.set_cons_zero, List.set_cons_succ]
        refine wpAnyH_take (i := 60) (oi := { dst := some 107, op := Op.pick (Operand.tmp 103) (Operand.const (Value.bool true)) (Operand.tmp 106), type := 4, pos := "laws.go:257", after := #[{ on := 56, ground := Ground.data }, { on := 59, ground := Ground.data }, { on := 52, ground := Ground.guard }], guard := some (52, true) }) (v := ?vD60) rfl (by kernel_rfl) (by kernel_rfl) (by kernel_rfl) (fun _ _ _ h => h) (Or.inl ⟨by rfl, ?hyD60⟩) hHeld ?_
        case hyD60 => (intro w hSw; (try dsimp only at hSw); go_simp <;> with_reducible rfl)
        try simp only [Act.put, List.setIfInBounds_toArray, List.set_cons_zero, List.set_cons_succ]
        refine wpAnyH_take (i := 61) (oi := { dst := some 108, op := Op.move (Operand.tmp 107), type := 4, pos := "laws.go:257", after := #[{ on := 60, ground := Ground.data }, { on := 58, ground := Ground.chain }, { on := 52, ground := Ground.guard }], guard := some (52, true) }) (v := ?vD61) rfl (by kernel_rfl) (by kernel_rfl) (by kernel_rfl) (fun _ _ _ h => h) (Or.inl ⟨by rfl, ?hyD61⟩) hHeld ?_
        case hyD61 => (intro w hSw; (try dsimp only at hSw); go_simp <;> with_reducible rfl)
        try simp only [Act.put, List.setIfInBounds_toArray, List.set_cons_zero, List.set_cons_succ]
        refine wpAnyH_take (i := 62) (oi := { dst := some 109, op := Op.load 49 (Operand.tmp 5), type := 49, pos := "laws.go:257", after := #[{ on := 61, ground := Ground.guard }], guard := some (61, false) }) (v := ?vD62) rfl (by kernel_rfl) (by kernel_rfl) (by kernel_rfl) (fun _ _ _ h => h) (Or.inl ⟨by rfl, ?hyD62⟩) hHeld ?_
        case hyD62 => (intro w hSw; (try dsimp only at hSw); go_simp <;> with_reducible rfl)
        try simp only [Act.put, List.setIfInBounds_toArray, List.set_cons_zero, List.set_cons_succ]
        refine wpAnyH_ready (rs := [63]) (by kernel_rfl) (by simp) ?_
        refine AllReadyH.cons (o := { dst := some 110, op := Op.call { callee := Callee.value (Operand.func 49), args := #[Operand.tmp 109], argTypes := #[49] }, type := 4, pos := "laws.go:257", after := #[{ on := 62, ground := Ground.data }, { on := 61, ground := Ground.chain }, { on := 61, ground := Ground.guard }], guard := some (61, false) }) rfl (fun K hK => ?_) AllReadyH.nil
        go_simp
        refine (OM.out _ hHeld.1).mono ?_
        rintro r wy ⟨rfl, hy⟩
        have hz : Below y.heap.size y wy := grow_on hHeld.1 hy
        clear hHeld hy
        refine hK.out _ _ (HS.out _ hz) (fun hHeld => ?_)
        clear hK K hz
        try simp only [Act.put, List.setIfInBounds_toArray, List.set_cons_zero, List.set_cons_succ]
        refine wpAnyH_take (i := 64) (oi := { dst := some 111, op := Op.pick (Operand.tmp 108) (Operand.const (Value.bool true)) (Operand.tmp 110), type := 4, pos := "laws.go:257", after := #[{ on := 61, ground := Ground.data }, { on := 63, ground := Ground.data }, { on := 52, ground := Ground.guard }], guard := some (52, true) }) (v := ?vD64) rfl (by kernel_rfl) (by kernel_rfl) (by kernel_rfl) (fun _ _ _ h => h) (Or.inl ⟨by rfl, ?hyD64⟩) hHeld ?_
        case hyD64 => (intro w hSw; (try dsimp only at hSw); go_simp <;> with_reducible rfl)
        try simp only [Act.put, List.setIfInBounds_toArray, List.set_cons_zero, List.set_cons_succ]
        refine wpAnyH_take (i := 65) (oi := { dst := some 112, op := Op.pick (Operand.tmp 99) (Operand.tmp 111) (Operand.const (Value.bool false)), type := 4, pos := "laws.go:257", after := #[{ on := 52, ground := Ground.data }, { on := 64, ground := Ground.data }], guard := none }) (v := ?vD65) rfl (by kernel_rfl) (by kernel_rfl) (by kernel_rfl) (fun _ _ _ h => h) (Or.inl ⟨by rfl, ?hyD65⟩) hHeld ?_
        case hyD65 => (intro w hSw; (try dsimp only at hSw); go_simp <;> with_reducible rfl)
        try simp only [Act.put, List.setIfInBounds_toArray, List.set_cons_zero, List.set_cons_succ]
        refine wpAnyH_take (i := 66) (oi := { dst := some 2, op := Op.assign (Operand.tmp 112), type := 4, pos := "laws.go:257", after := #[{ on := 65, ground := Ground.data }, { on := 63, ground := Ground.chain }, { on := 0, ground := Ground.phase }, { on := 1, ground := Ground.phase }, { on := 2, ground := Ground.phase }, { on := 3, ground := Ground.phase }, { on := 4, ground := Ground.phase }, { on := 5, ground := Ground.phase }, { on := 6, ground := Ground.phase }, { on := 7, ground := Ground.phase }, { on := 8, ground := Ground.phase }, { on := 9, ground := Ground.phase }, { on := 10, ground := Ground.phase }, { on := 11, ground := Ground.phase }, { on := 12, ground := Ground.phase }, { on := 13, ground := Ground.phase }, { on := 14, ground := Ground.phase }, { on := 15, ground := Ground.phase }, { on := 16, ground := Ground.phase }, { on := 17, ground := Ground.phase }, { on := 18, ground := Ground.phase }, { on := 19, ground := Ground.phase }, { on := 20, ground := Ground.phase }, { on := 21, ground := Ground.phase }, { on := 22, ground := Ground.phase }, { on := 23, ground := Ground.phase }, { on := 24, ground := Ground.phase }, { on := 25, ground := Ground.phase }, { on := 26, ground := Ground.phase }, { on := 27, ground := Ground.phase }, { on := 28, ground := Ground.phase }, { on := 29, ground := Ground.phase }, { on := 30, ground := Ground.phase }, { on := 31, ground := Ground.phase }, { on := 32, ground := Ground.phase }, { on := 33, ground := Ground.phase }, { on := 34, ground := Ground.phase }, { on := 35, ground := Ground.phase }, { on := 36, ground := Ground.phase }, { on := 37, ground := Ground.phase }, { on := 38, ground := Ground.phase }, { on := 39, ground := Ground.phase }, { on := 40, ground := Ground.phase }, { on := 41, ground := Ground.phase }, { on := 42, ground := Ground.phase }, { on := 43, ground := Ground.phase }, { on := 44, ground := Ground.phase }, { on := 45, ground := Ground.phase }, { on := 46, ground := Ground.phase }, { on := 47, ground := Ground.phase }, { on := 48, ground := Ground.phase }, { on := 49, ground := Ground.phase }, { on := 50, ground := Ground.phase }, { on := 51, ground := Ground.phase }, { on := 52, ground := Ground.phase }, { on := 53, ground := Ground.phase }, { on := 54, ground := Ground.phase }, { on := 55, ground := Ground.phase }, { on := 56, ground := Ground.phase }, { on := 57, ground := Ground.phase }, { on := 58, ground := Ground.phase }, { on := 59, ground := Ground.phase }, { on := 60, ground := Ground.phase }, { on := 61, ground := Ground.phase }, { on := 62, ground := Ground.phase }, { on := 63, ground := Ground.phase }, { on := 64, ground := Ground.phase }, { on := 65, ground := Ground.phase }], guard := none }) (v := ?vD66) rfl (by kernel_rfl) (by kernel_rfl) (by kernel_rfl) (fun _ _ _ h => h) (Or.inl ⟨by rfl, ?hyD66⟩) hHeld ?_
        case hyD66 => (intro w hSw; (try dsimp only at hSw); go_simp <;> with_reducible rfl)
        try simp only [Act.put, List.setIfInBounds_toArray, List.set_cons_zero, List.set_cons_succ]
        refine wpAnyH_done (by kernel_rfl) ?_ _
        go_wp2
        go_ret
        exact ⟨rfl, grow_on BY.out hHeld.1⟩
  | true =>
    rw [ht] at CT
    clear ht HST
    cases ha : alarmB p1 s1 e1 n1 with
    | false =>
      rw [ha] at OA
      clear ha HOK
      refine wp_region_held_drew (S := fun w' => Below y.heap.size y w' ∧ w'.cell? ⟨w1.heap.size, 0, none⟩ = some (.slice (some ⟨g1, 0, none⟩) p1.length c1) ∧ w'.cell? ⟨w1.heap.size, 1, none⟩ = some (.int .i64 s1) ∧ w'.cell? ⟨w1.heap.size, 2, none⟩ = some (.int .i64 e1) ∧ w'.cell? ⟨w1.heap.size, 3, none⟩ = some (.string n1) ∧ w'.cell? ⟨(w1.heap.size + 1), 0, none⟩ = some (.slice (some ⟨g2, 0, none⟩) p2.length c2) ∧ w'.cell? ⟨(w1.heap.size + 1), 1, none⟩ = some (.int .i64 s2) ∧ w'.cell? ⟨(w1.heap.size + 1), 2, none⟩ = some (.int .i64 e2) ∧ w'.cell? ⟨(w1.heap.size + 1), 3, none⟩ = some (.string n2) ∧ w'.cell? ⟨w2.heap.size, 0, none⟩ = some (.slice (some ⟨g5, 0, none⟩) p2.length c5) ∧ w'.cell? ⟨w2.heap.size, 1, none⟩ = some (.int .i64 stt) ∧ w'.cell? ⟨w2.heap.size, 2, none⟩ = some (.int .i64 e2) ∧ w'.cell? ⟨w2.heap.size, 3, none⟩ = some (.string n2)) (by kernel_rfl) (HS.out _ kz) (fun hHeld => ?_)
      refine wpAnyH_take (i := 0) (oi := { dst := some 47, op := Op.fieldAddr 49 (Operand.tmp 5) 2, type := 0, pos := "laws.go:257", after := #[], guard := none }) (v := ?vE0) rfl (by kernel_rfl) (by kernel_rfl) (by kernel_rfl) (fun _ _ _ h => h) (Or.inl ⟨by rfl, ?hyE0⟩) hHeld ?_
      case hyE0 => (intro w hSw; (try dsimp only at hSw); go_simp <;> with_reducible rfl)
      try simp only [Act.put, List.setIfInBounds_toArray, List.set_cons_zero, List.set_cons_succ]
      refine wpAnyH_take (i := 1) (oi := { dst := some 48, op := Op.load 3 (Operand.tmp 47), type := 3, pos := "laws.go:257", after := #[{ on := 0, ground := Ground.data }], guard := none }) (v := ?vE1) rfl (by kernel_rfl) (by kernel_rfl) (by kernel_rfl) (fun _ _ _ h => h) (Or.inl ⟨by rfl, ?hyE1⟩) hHeld ?_
      case hyE1 => (intro w hSw; (try dsimp only at hSw); go_simp <;> with_reducible rfl)
      try simp only [Act.put, List.setIfInBounds_toArray, List.set_cons_zero, List.set_cons_succ]
      refine wpAnyH_take (i := 2) (oi := { dst := some 49, op := Op.fieldAddr 49 (Operand.tmp 4) 2, type := 0, pos := "laws.go:257", after := #[], guard := none }) (v := ?vE2) rfl (by kernel_rfl) (by kernel_rfl) (by kernel_rfl) (fun _ _ _ h => h) (Or.inl ⟨by rfl, ?hyE2⟩) hHeld ?_
      case hyE2 => (intro w hSw; (try dsimp only at hSw); go_simp <;> with_reducible rfl)
      try simp only [Act.put, List.setIfInBounds_toArray, List.set_cons_zero, List.set_cons_succ]
      refine wpAnyH_take (i := 3) (oi := { dst := some 50, op := Op.load 3 (Operand.tmp 49), type := 3, pos := "laws.go:257", after := #[{ on := 2, ground := Ground.data }], guard := none }) (v := ?vE3) rfl (by kernel_rfl) (by kernel_rfl) (by kernel_rfl) (fun _ _ _ h => h) (Or.inl ⟨by rfl, ?hyE3⟩) hHeld ?_
      case hyE3 => (intro w hSw; (try dsimp only at hSw); go_simp <;> with_reducible rfl)
      try simp only [Act.put, List.setIfInBounds_toArray, List.set_cons_zero, List.set_cons_succ]
      refine wpAnyH_take (i := 4) (oi := { dst := some 51, op := Op.binOp BinOp.eql 3 (Operand.tmp 48) (Operand.tmp 50) 3, type := 4, pos := "laws.go:257", after := #[{ on := 1, ground := Ground.data }, { on := 3, ground := Ground.data }], guard := none }) (v := ?vE4) rfl (by kernel_rfl) (by kernel_rfl) (by kernel_rfl) (fun _ _ _ h => h) (Or.inl ⟨by rfl, ?hyE4⟩) hHeld ?_
      case hyE4 => (intro w hSw; (try dsimp only at hSw); go_simp <;> with_reducible rfl)
      try simp only [Act.put, List.setIfInBounds_toArray, List.set_cons_zero, List.set_cons_succ]
      refine wpAnyH_take (i := 5) (oi := { dst := some 52, op := Op.move (Operand.tmp 51), type := 4, pos := "laws.go:257", after := #[{ on := 4, ground := Ground.data }], guard := none }) (v := ?vE5) rfl (by kernel_rfl) (by kernel_rfl) (by kernel_rfl) (fun _ _ _ h => h) (Or.inl ⟨by rfl, ?hyE5⟩) hHeld ?_
      case hyE5 => (intro w hSw; (try dsimp only at hSw); go_simp <;> with_reducible rfl)
      try simp only [Act.put, List.setIfInBounds_toArray, List.set_cons_zero, List.set_cons_succ]
      refine wpAnyH_take (i := 6) (oi := { dst := some 53, op := Op.fieldAddr 49 (Operand.tmp 5) 3, type := 0, pos := "laws.go:257", after := #[{ on := 5, ground := Ground.guard }], guard := some (5, true) }) (v := ?vE6) rfl (by kernel_rfl) (by kernel_rfl) (by kernel_rfl) (fun _ _ _ h => h) (Or.inl ⟨by rfl, ?hyE6⟩) hHeld ?_
      case hyE6 => (intro w hSw; (try dsimp only at hSw); go_simp <;> with_reducible rfl)
      try simp only [Act.put, List.setIfInBounds_toArray, List.set_cons_zero, List.set_cons_succ]
      refine wpAnyH_take (i := 7) (oi := { dst := some 54, op := Op.load 9 (Operand.tmp 53), type := 9, pos := "laws.go:257", after := #[{ on := 6, ground := Ground.data }, { on := 5, ground := Ground.guard }], guard := some (5, true) }) (v := ?vE7) rfl (by kernel_rfl) (by kernel_rfl) (by kernel_rfl) (fun _ _ _ h => h) (Or.inl ⟨by rfl, ?hyE7⟩) hHeld ?_
      case hyE7 => (intro w hSw; (try dsimp only at hSw); go_simp <;> with_reducible rfl)
      try simp only [Act.put, List.setIfInBounds_toArray, List.set_cons_zero, List.set_cons_succ]
      refine wpAnyH_take (i := 8) (oi := { dst := some 55, op := Op.fieldAddr 49 (Operand.tmp 4) 3, type := 0, pos := "laws.go:257", after := #[{ on := 5, ground := Ground.guard }], guard := some (5, true) }) (v := ?vE8) rfl (by kernel_rfl) (by kernel_rfl) (by kernel_rfl) (fun _ _ _ h => h) (Or.inl ⟨by rfl, ?hyE8⟩) hHeld ?_
      case hyE8 => (intro w hSw; (try dsimp only at hSw); go_simp <;> with_reducible rfl)
      try simp only [Act.put, List.setIfInBounds_toArray, List.set_cons_zero, List.set_cons_succ]
      refine wpAnyH_take (i := 9) (oi := { dst := some 56, op := Op.load 9 (Operand.tmp 55), type := 9, pos := "laws.go:257", after := #[{ on := 8, ground := Ground.data }, { on := 5, ground := Ground.guard }], guard := some (5, true) }) (v := ?vE9) rfl (by kernel_rfl) (by kernel_rfl) (by kernel_rfl) (fun _ _ _ h => h) (Or.inl ⟨by rfl, ?hyE9⟩) hHeld ?_
      case hyE9 => (intro w hSw; (try dsimp only at hSw); go_simp <;> with_reducible rfl)
      try simp only [Act.put, List.setIfInBounds_toArray, List.set_cons_zero, List.set_cons_succ]
      refine wpAnyH_take (i := 10) (oi := { dst := some 57, op := Op.binOp BinOp.eql 9 (Operand.tmp 54) (Operand.tmp 56) 9, type := 4, pos := "laws.go:257", after := #[{ on := 7, ground := Ground.data }, { on := 9, ground := Ground.data }, { on := 5, ground := Ground.guard }], guard := some (5, true) }) (v := ?vE10) rfl (by kernel_rfl) (by kernel_rfl) (by kernel_rfl) (fun _ _ _ h => h) (Or.inl ⟨by rfl, ?hyE10⟩) hHeld ?_
      case hyE10 => (intro w hSw; (try dsimp only at hSw); go_simp <;> with_reducible rfl)
      try simp only [Act.put, List.setIfInBounds_toArray, List.set_cons_zero, List.set_cons_succ]
      refine wpAnyH_take (i := 11) (oi := { dst := some 58, op := Op.pick (Operand.tmp 52) (Operand.tmp 57) (Operand.const (Value.bool false)), type := 4, pos := "laws.go:257", after := #[{ on := 5, ground := Ground.data }, { on := 10, ground := Ground.data }], guard := none }) (v := ?vE11) rfl (by kernel_rfl) (by kernel_rfl) (by kernel_rfl) (fun _ _ _ h => h) (Or.inl ⟨by rfl, ?hyE11⟩) hHeld ?_
      case hyE11 => (intro w hSw; (try dsimp only at hSw); go_simp <;> with_reducible rfl)
      try simp only [Act.put, List.setIfInBounds_toArray, List.set_cons_zero, List.set_cons_succ]
      refine wpAnyH_take (i := 12) (oi := { dst := some 59, op := Op.move (Operand.tmp 58), type := 4, pos := "laws.go:257", after := #[{ on := 11, ground := Ground.data }, { on := 5, ground := Ground.chain }], guard := none }) (v := ?vE12) rfl (by kernel_rfl) (by kernel_rfl) (by kernel_rfl) (fun _ _ _ h => h) (Or.inl ⟨by rfl, ?hyE12⟩) hHeld ?_
      case hyE12 => (intro w hSw; (try dsimp only at hSw); go_simp <;> with_reducible rfl)
      try simp only [Act.put, List.setIfInBounds_toArray, List.set_cons_zero, List.set_cons_succ]
      refine wpAnyH_take (i := 13) (oi := { dst := some 60, op := Op.fieldAddr 49 (Operand.tmp 5) 0, type := 0, pos := "laws.go:257", after := #[{ on := 12, ground := Ground.guard }], guard := some (12, true) }) (v := ?vE13) rfl (by kernel_rfl) (by kernel_rfl) (by kernel_rfl) (fun _ _ _ h => h) (Or.inl ⟨by rfl, ?hyE13⟩) hHeld ?_
      case hyE13 => (intro w hSw; (try dsimp only at hSw); go_simp <;> with_reducible rfl)
      try simp only [Act.put, List.setIfInBounds_toArray, List.set_cons_zero, List.set_cons_succ]
      refine wpAnyH_take (i := 14) (oi := { dst := some 61, op := Op.load 24 (Operand.tmp 60), type := 24, pos := "laws.go:257", after := #[{ on := 13, ground := Ground.data }, { on := 12, ground := Ground.guard }], guard := some (12, true) }) (v := ?vE14) rfl (by kernel_rfl) (by kernel_rfl) (by kernel_rfl) (fun _ _ _ h => h) (Or.inl ⟨by rfl, ?hyE14⟩) hHeld ?_
      case hyE14 => (intro w hSw; (try dsimp only at hSw); go_simp <;> with_reducible rfl)
      try simp only [Act.put, List.setIfInBounds_toArray, List.set_cons_zero, List.set_cons_succ]
      refine wpAnyH_take (i := 15) (oi := { dst := some 62, op := Op.fieldAddr 49 (Operand.tmp 4) 0, type := 0, pos := "laws.go:257", after := #[{ on := 12, ground := Ground.guard }], guard := some (12, true) }) (v := ?vE15) rfl (by kernel_rfl) (by kernel_rfl) (by kernel_rfl) (fun _ _ _ h => h) (Or.inl ⟨by rfl, ?hyE15⟩) hHeld ?_
      case hyE15 => (intro w hSw; (try dsimp only at hSw); go_simp <;> with_reducible rfl)
      try simp only [Act.put, List.setIfInBounds_toArray, List.set_cons_zero, List.set_cons_succ]
      refine wpAnyH_take (i := 16) (oi := { dst := some 63, op := Op.load 24 (Operand.tmp 62), type := 24, pos := "laws.go:257", after := #[{ on := 15, ground := Ground.data }, { on := 12, ground := Ground.guard }], guard := some (12, true) }) (v := ?vE16) rfl (by kernel_rfl) (by kernel_rfl) (by kernel_rfl) (fun _ _ _ h => h) (Or.inl ⟨by rfl, ?hyE16⟩) hHeld ?_
      case hyE16 => (intro w hSw; (try dsimp only at hSw); go_simp <;> with_reducible rfl)
      try simp only [Act.put, List.setIfInBounds_toArray, List.set_cons_zero, List.set_cons_succ]
      refine wpAnyH_ready (rs := [17]) (by kernel_rfl) (by simp) ?_
      refine AllReadyH.cons (o := { dst := some 64, op := Op.call { callee := Callee.value (Operand.func 18), args := #[Operand.tmp 61, Operand.tmp 63], argTypes := #[24, 24] }, type := 4, pos := "laws.go:257", after := #[{ on := 14, ground := Ground.data }, { on := 16, ground := Ground.data }, { on := 12, ground := Ground.chain }, { on := 12, ground := Ground.guard }], guard := some (12, true) }) rfl (fun K hK => ?_) AllReadyH.nil
      go_simp
      refine (CS.out _ hHeld.1).mono ?_
      rintro r wy ⟨rfl, hy⟩
      have hz : Below y.heap.size y wy := grow_on hHeld.1 hy
      clear hHeld hy
      refine hK.out _ _ (HS.out _ hz) (fun hHeld => ?_)
      clear hK K hz
      try simp only [Act.put, List.setIfInBounds_toArray, List.set_cons_zero, List.set_cons_succ]
      refine wpAnyH_take (i := 18) (oi := { dst := some 65, op := Op.pick (Operand.tmp 59) (Operand.tmp 64) (Operand.const (Value.bool false)), type := 4, pos := "laws.go:257", after := #[{ on := 12, ground := Ground.data }, { on := 17, ground := Ground.data }], guard := none }) (v := ?vE18) rfl (by kernel_rfl) (by kernel_rfl) (by kernel_rfl) (fun _ _ _ h => h) (Or.inl ⟨by rfl, ?hyE18⟩) hHeld ?_
      case hyE18 => (intro w hSw; (try dsimp only at hSw); go_simp <;> with_reducible rfl)
      try simp only [Act.put, List.setIfInBounds_toArray, List.set_cons_zero, List.set_cons_succ]
      refine wpAnyH_take (i := 19) (oi := { dst := some 66, op := Op.move (Operand.tmp 65), type := 4, pos := "laws.go:257", after := #[{ on := 18, ground := Ground.data }, { on := 17, ground := Ground.chain }], guard := none }) (v := ?vE19) rfl (by kernel_rfl) (by kernel_rfl) (by kernel_rfl) (fun _ _ _ h => h) (Or.inl ⟨by rfl, ?hyE19⟩) hHeld ?_
      case hyE19 => (intro w hSw; (try dsimp only at hSw); go_simp <;> with_reducible rfl)
      try simp only [Act.put, List.setIfInBounds_toArray, List.set_cons_zero, List.set_cons_succ]
      refine wpAnyH_take (i := 20) (oi := { dst := some 67, op := Op.fieldAddr 49 (Operand.tmp 5) 1, type := 0, pos := "laws.go:257", after := #[{ on := 19, ground := Ground.guard }], guard := some (19, true) }) (v := ?vE20) rfl (by kernel_rfl) (by kernel_rfl) (by kernel_rfl) (fun _ _ _ h => h) (Or.inl ⟨by rfl, ?hyE20⟩) hHeld ?_
      case hyE20 => (intro w hSw; (try dsimp only at hSw); go_simp <;> with_reducible rfl)
      try simp only [Act.put, List.setIfInBounds_toArray, List.set_cons_zero, List.set_cons_succ]
      refine wpAnyH_take (i := 21) (oi := { dst := some 68, op := Op.load 3 (Operand.tmp 67), type := 3, pos := "laws.go:257", after := #[{ on := 20, ground := Ground.data }, { on := 19, ground := Ground.guard }], guard := some (19, true) }) (v := ?vE21) rfl (by kernel_rfl) (by kernel_rfl) (by kernel_rfl) (fun _ _ _ h => h) (Or.inl ⟨by rfl, ?hyE21⟩) hHeld ?_
      case hyE21 => (intro w hSw; (try dsimp only at hSw); go_simp <;> with_reducible rfl)
      try simp only [Act.put, List.setIfInBounds_toArray, List.set_cons_zero, List.set_cons_succ]
      refine wpAnyH_take (i := 22) (oi := { dst := some 69, op := Op.fieldAddr 49 (Operand.tmp 4) 1, type := 0, pos := "laws.go:257", after := #[{ on := 19, ground := Ground.guard }], guard := some (19, true) }) (v := ?vE22) rfl (by kernel_rfl) (by kernel_rfl) (by kernel_rfl) (fun _ _ _ h => h) (Or.inl ⟨by rfl, ?hyE22⟩) hHeld ?_
      case hyE22 => (intro w hSw; (try dsimp only at hSw); go_simp <;> with_reducible rfl)
      try simp only [Act.put, List.setIfInBounds_toArray, List.set_cons_zero, List.set_cons_succ]
      refine wpAnyH_take (i := 23) (oi := { dst := some 70, op := Op.load 3 (Operand.tmp 69), type := 3, pos := "laws.go:257", after := #[{ on := 22, ground := Ground.data }, { on := 19, ground := Ground.guard }], guard := some (19, true) }) (v := ?vE23) rfl (by kernel_rfl) (by kernel_rfl) (by kernel_rfl) (fun _ _ _ h => h) (Or.inl ⟨by rfl, ?hyE23⟩) hHeld ?_
      case hyE23 => (intro w hSw; (try dsimp only at hSw); go_simp <;> with_reducible rfl)
      try simp only [Act.put, List.setIfInBounds_toArray, List.set_cons_zero, List.set_cons_succ]
      refine wpAnyH_take (i := 24) (oi := { dst := some 71, op := Op.binOp BinOp.leq 3 (Operand.tmp 68) (Operand.tmp 70) 3, type := 4, pos := "laws.go:257", after := #[{ on := 21, ground := Ground.data }, { on := 23, ground := Ground.data }, { on := 19, ground := Ground.guard }], guard := some (19, true) }) (v := ?vE24) rfl (by kernel_rfl) (by kernel_rfl) (by kernel_rfl) (fun _ _ _ h => h) (Or.inl ⟨by rfl, ?hyE24⟩) hHeld ?_
      case hyE24 => (intro w hSw; (try dsimp only at hSw); go_simp <;> with_reducible rfl)
      try simp only [Act.put, List.setIfInBounds_toArray, List.set_cons_zero, List.set_cons_succ]
      refine wpAnyH_take (i := 25) (oi := { dst := some 72, op := Op.pick (Operand.tmp 66) (Operand.tmp 71) (Operand.const (Value.bool false)), type := 4, pos := "laws.go:257", after := #[{ on := 19, ground := Ground.data }, { on := 24, ground := Ground.data }], guard := none }) (v := ?vE25) rfl (by kernel_rfl) (by kernel_rfl) (by kernel_rfl) (fun _ _ _ h => h) (Or.inl ⟨by rfl, ?hyE25⟩) hHeld ?_
      case hyE25 => (intro w hSw; (try dsimp only at hSw); go_simp <;> with_reducible rfl)
      try simp only [Act.put, List.setIfInBounds_toArray, List.set_cons_zero, List.set_cons_succ]
      refine wpAnyH_take (i := 26) (oi := { dst := some 73, op := Op.move (Operand.tmp 72), type := 4, pos := "laws.go:257", after := #[{ on := 25, ground := Ground.data }, { on := 19, ground := Ground.chain }], guard := none }) (v := ?vE26) rfl (by kernel_rfl) (by kernel_rfl) (by kernel_rfl) (fun _ _ _ h => h) (Or.inl ⟨by rfl, ?hyE26⟩) hHeld ?_
      case hyE26 => (intro w hSw; (try dsimp only at hSw); go_simp <;> with_reducible rfl)
      try simp only [Act.put, List.setIfInBounds_toArray, List.set_cons_zero, List.set_cons_succ]
      refine wpAnyH_take (i := 27) (oi := { dst := some 74, op := Op.load 49 (Operand.tmp 3), type := 49, pos := "laws.go:257", after := #[{ on := 26, ground := Ground.guard }], guard := some (26, true) }) (v := ?vE27) rfl (by kernel_rfl) (by kernel_rfl) (by kernel_rfl) (fun _ _ _ h => h) (Or.inl ⟨by rfl, ?hyE27⟩) hHeld ?_
      case hyE27 => (intro w hSw; (try dsimp only at hSw); go_simp <;> with_reducible rfl)
      try simp only [Act.put, List.setIfInBounds_toArray, List.set_cons_zero, List.set_cons_succ]
      refine wpAnyH_take (i := 28) (oi := { dst := some 75, op := Op.load 49 (Operand.tmp 4), type := 49, pos := "laws.go:257", after := #[{ on := 26, ground := Ground.guard }], guard := some (26, true) }) (v := ?vE28) rfl (by kernel_rfl) (by kernel_rfl) (by kernel_rfl) (fun _ _ _ h => h) (Or.inl ⟨by rfl, ?hyE28⟩) hHeld ?_
      case hyE28 => (intro w hSw; (try dsimp only at hSw); go_simp <;> with_reducible rfl)
      try simp only [Act.put, List.setIfInBounds_toArray, List.set_cons_zero, List.set_cons_succ]
      refine wpAnyH_ready (rs := [29]) (by kernel_rfl) (by simp) ?_
      refine AllReadyH.cons (o := { dst := some 76, op := Op.call { callee := Callee.value (Operand.func 47), args := #[Operand.tmp 74, Operand.tmp 75], argTypes := #[49, 49] }, type := 4, pos := "laws.go:257", after := #[{ on := 27, ground := Ground.data }, { on := 28, ground := Ground.data }, { on := 26, ground := Ground.chain }, { on := 26, ground := Ground.guard }], guard := some (26, true) }) rfl (fun K hK => ?_) AllReadyH.nil
      go_simp
      refine (CT.out _ hHeld.1).mono ?_
      rintro r wy ⟨rfl, hy⟩
      have hz : Below y.heap.size y wy := grow_on hHeld.1 hy
      clear hHeld hy
      refine hK.out _ _ (HS.out _ hz) (fun hHeld => ?_)
      clear hK K hz
      try simp only [Act.put, List.setIfInBounds_toArray, List.set_cons_zero, List.set_cons_succ]
      refine wpAnyH_take (i := 30) (oi := { dst := some 77, op := Op.move (Operand.tmp 76), type := 4, pos := "laws.go:257", after := #[{ on := 29, ground := Ground.data }, { on := 29, ground := Ground.chain }, { on := 26, ground := Ground.guard }], guard := some (26, true) }) (v := ?vE30) rfl (by kernel_rfl) (by kernel_rfl) (by kernel_rfl) (fun _ _ _ h => h) (Or.inl ⟨by rfl, ?hyE30⟩) hHeld ?_
      case hyE30 => (intro w hSw; (try dsimp only at hSw); go_simp <;> with_reducible rfl)
      try simp only [Act.put, List.setIfInBounds_toArray, List.set_cons_zero, List.set_cons_succ]
      refine wpAnyH_take (i := 31) (oi := { dst := some 78, op := Op.fieldAddr 49 (Operand.tmp 5) 1, type := 0, pos := "laws.go:257", after := #[{ on := 30, ground := Ground.guard }], guard := some (30, false) }) (v := undef) rfl (by kernel_rfl) (by kernel_rfl) (by kernel_rfl) (fun _ _ _ h => h) (Or.inr ⟨by rfl, rfl⟩) hHeld ?_
      try simp only [Act.put, List.setIfInBounds_toArray, List.set_cons_zero, List.set_cons_succ]
      refine wpAnyH_take (i := 32) (oi := { dst := some 79, op := Op.load 3 (Operand.tmp 78), type := 3, pos := "laws.go:257", after := #[{ on := 31, ground := Ground.data }, { on := 30, ground := Ground.guard }], guard := some (30, false) }) (v := undef) rfl (by kernel_rfl) (by kernel_rfl) (by kernel_rfl) (fun _ _ _ h => h) (Or.inr ⟨by rfl, rfl⟩) hHeld ?_
      try simp only [Act.put, List.setIfInBounds_toArray, List.set_cons_zero, List.set_cons_succ]
      refine wpAnyH_take (i := 33) (oi := { dst := some 80, op := Op.fieldAddr 49 (Operand.tmp 4) 1, type := 0, pos := "laws.go:257", after := #[{ on := 30, ground := Ground.guard }], guard := some (30, false) }) (v := undef) rfl (by kernel_rfl) (by kernel_rfl) (by kernel_rfl) (fun _ _ _ h => h) (Or.inr ⟨by rfl, rfl⟩) hHeld ?_
      try simp only [Act.put, List.setIfInBounds_toArray, List.set_cons_zero, List.set_cons_succ]
      refine wpAnyH_take (i := 34) (oi := { dst := some 81, op := Op.load 3 (Operand.tmp 80), type := 3, pos := "laws.go:257", after := #[{ on := 33, ground := Ground.data }, { on := 30, ground := Ground.guard }], guard := some (30, false) }) (v := undef) rfl (by kernel_rfl) (by kernel_rfl) (by kernel_rfl) (fun _ _ _ h => h) (Or.inr ⟨by rfl, rfl⟩) hHeld ?_
      try simp only [Act.put, List.setIfInBounds_toArray, List.set_cons_zero, List.set_cons_succ]
      refine wpAnyH_take (i := 35) (oi := { dst := some 82, op := Op.binOp BinOp.eql 3 (Operand.tmp 79) (Operand.tmp 81) 3, type := 4, pos := "laws.go:257", after := #[{ on := 32, ground := Ground.data }, { on := 34, ground := Ground.data }, { on := 30, ground := Ground.guard }], guard := some (30, false) }) (v := undef) rfl (by kernel_rfl) (by kernel_rfl) (by kernel_rfl) (fun _ _ _ h => h) (Or.inr ⟨by rfl, rfl⟩) hHeld ?_
      try simp only [Act.put, List.setIfInBounds_toArray, List.set_cons_zero, List.set_cons_succ]
      refine wpAnyH_take (i := 36) (oi := { dst := some 83, op := Op.pick (Operand.tmp 77) (Operand.const (Value.bool true)) (Operand.tmp 82), type := 4, pos := "laws.go:257", after := #[{ on := 30, ground := Ground.data }, { on := 35, ground := Ground.data }, { on := 26, ground := Ground.guard }], guard := some (26, true) }) (v := ?vE36) rfl (by kernel_rfl) (by kernel_rfl) (by kernel_rfl) (fun _ _ _ h => h) (Or.inl ⟨by rfl, ?hyE36⟩) hHeld ?_
      case hyE36 => (intro w hSw; (try dsimp only at hSw); go_simp <;> with_reducible rfl)
      try simp only [Act.put, List.setIfInBounds_toArray, List.set_cons_zero, List.set_cons_succ]
      refine wpAnyH_take (i := 37) (oi := { dst := some 84, op := Op.pick (Operand.tmp 73) (Operand.tmp 83) (Operand.const (Value.bool false)), type := 4, pos := "laws.go:257", after := #[{ on := 26, ground := Ground.data }, { on := 36, ground := Ground.data }], guard := none }) (v := ?vE37) rfl (by kernel_rfl) (by kernel_rfl) (by kernel_rfl) (fun _ _ _ h => h) (Or.inl ⟨by rfl, ?hyE37⟩) hHeld ?_
      case hyE37 => (intro w hSw; (try dsimp only at hSw); go_simp <;> with_reducible rfl)
      try simp only [Act.put, List.setIfInBounds_toArray, List.set_cons_zero, List.set_cons_succ]
      refine wpAnyH_take (i := 38) (oi := { dst := some 85, op := Op.move (Operand.tmp 84), type := 4, pos := "laws.go:257", after := #[{ on := 37, ground := Ground.data }, { on := 30, ground := Ground.chain }], guard := none }) (v := ?vE38) rfl (by kernel_rfl) (by kernel_rfl) (by kernel_rfl) (fun _ _ _ h => h) (Or.inl ⟨by rfl, ?hyE38⟩) hHeld ?_
      case hyE38 => (intro w hSw; (try dsimp only at hSw); go_simp <;> with_reducible rfl)
      try simp only [Act.put, List.setIfInBounds_toArray, List.set_cons_zero, List.set_cons_succ]
      refine wpAnyH_take (i := 39) (oi := { dst := some 86, op := Op.load 49 (Operand.tmp 3), type := 49, pos := "laws.go:257", after := #[{ on := 38, ground := Ground.guard }], guard := some (38, true) }) (v := ?vE39) rfl (by kernel_rfl) (by kernel_rfl) (by kernel_rfl) (fun _ _ _ h => h) (Or.inl ⟨by rfl, ?hyE39⟩) hHeld ?_
      case hyE39 => (intro w hSw; (try dsimp only at hSw); go_simp <;> with_reducible rfl)
      try simp only [Act.put, List.setIfInBounds_toArray, List.set_cons_zero, List.set_cons_succ]
      refine wpAnyH_take (i := 40) (oi := { dst := some 87, op := Op.load 49 (Operand.tmp 5), type := 49, pos := "laws.go:257", after := #[{ on := 38, ground := Ground.guard }], guard := some (38, true) }) (v := ?vE40) rfl (by kernel_rfl) (by kernel_rfl) (by kernel_rfl) (fun _ _ _ h => h) (Or.inl ⟨by rfl, ?hyE40⟩) hHeld ?_
      case hyE40 => (intro w hSw; (try dsimp only at hSw); go_simp <;> with_reducible rfl)
      try simp only [Act.put, List.setIfInBounds_toArray, List.set_cons_zero, List.set_cons_succ]
      refine wpAnyH_take (i := 42) (oi := { dst := some 89, op := Op.load 49 (Operand.tmp 5), type := 49, pos := "laws.go:257", after := #[{ on := 38, ground := Ground.guard }], guard := some (38, true) }) (v := ?vE42) rfl (by kernel_rfl) (by kernel_rfl) (by kernel_rfl) (fun _ _ _ h => h) (Or.inl ⟨by rfl, ?hyE42⟩) hHeld ?_
      case hyE42 => (intro w hSw; (try dsimp only at hSw); go_simp <;> with_reducible rfl)
      try simp only [Act.put, List.setIfInBounds_toArray, List.set_cons_zero, List.set_cons_succ]
      refine wpAnyH_ready (rs := [41]) (by kernel_rfl) (by simp) ?_
      refine AllReadyH.cons (o := { dst := some 88, op := Op.call { callee := Callee.value (Operand.func 43), args := #[Operand.tmp 86, Operand.tmp 87], argTypes := #[49, 49] }, type := 49, pos := "laws.go:257", after := #[{ on := 39, ground := Ground.data }, { on := 40, ground := Ground.data }, { on := 38, ground := Ground.chain }, { on := 38, ground := Ground.guard }], guard := some (38, true) }) rfl (fun K hK => ?_) AllReadyH.nil
      go_simp
      refine (M2.out _ hHeld.1).mono ?_
      rintro r wy ⟨⟨gS, cS, rfl, HSm⟩, hy⟩
      have hz : Below y.heap.size y wy := grow_on hHeld.1 hy
      clear hHeld hy
      refine hK.out _ _ (HS.out _ hz) (fun hHeld => ?_)
      clear hK K hz
      try simp only [Act.put, List.setIfInBounds_toArray, List.set_cons_zero, List.set_cons_succ]
      refine wpAnyH_ready (rs := [43]) (by kernel_rfl) (by simp) ?_
      refine AllReadyH.cons (o := { dst := some 90, op := Op.call { callee := Callee.value (Operand.func 45), args := #[Operand.tmp 88, Operand.tmp 89], argTypes := #[49, 49] }, type := 4, pos := "laws.go:257", after := #[{ on := 41, ground := Ground.data }, { on := 42, ground := Ground.data }, { on := 41, ground := Ground.chain }, { on := 38, ground := Ground.guard }], guard := some (38, true) }) rfl (fun K hK => ?_) AllReadyH.nil
      go_simp
      refine (S1.out _ _ _ hHeld.1 HSm).mono ?_
      rintro r wy ⟨rfl, hy⟩
      have hz : Below y.heap.size y wy := grow_on hHeld.1 hy
      clear hHeld hy HSm
      refine hK.out _ _ (HS.out _ hz) (fun hHeld => ?_)
      clear hK K hz
      try simp only [Act.put, List.setIfInBounds_toArray, List.set_cons_zero, List.set_cons_succ]
      refine wpAnyH_take (i := 44) (oi := { dst := some 91, op := Op.pick (Operand.tmp 85) (Operand.tmp 90) (Operand.const (Value.bool false)), type := 4, pos := "laws.go:257", after := #[{ on := 38, ground := Ground.data }, { on := 43, ground := Ground.data }], guard := none }) (v := ?vE44) rfl (by kernel_rfl) (by kernel_rfl) (by kernel_rfl) (fun _ _ _ h => h) (Or.inl ⟨by rfl, ?hyE44⟩) hHeld ?_
      case hyE44 => (intro w hSw; (try dsimp only at hSw); go_simp <;> with_reducible rfl)
      try simp only [Act.put, List.setIfInBounds_toArray, List.set_cons_zero, List.set_cons_succ]
      refine wpAnyH_take (i := 45) (oi := { dst := some 92, op := Op.move (Operand.tmp 91), type := 4, pos := "laws.go:257", after := #[{ on := 44, ground := Ground.data }, { on := 43, ground := Ground.chain }], guard := none }) (v := ?vE45) rfl (by kernel_rfl) (by kernel_rfl) (by kernel_rfl) (fun _ _ _ h => h) (Or.inl ⟨by rfl, ?hyE45⟩) hHeld ?_
      case hyE45 => (intro w hSw; (try dsimp only at hSw); go_simp <;> with_reducible rfl)
      try simp only [Act.put, List.setIfInBounds_toArray, List.set_cons_zero, List.set_cons_succ]
      refine wpAnyH_take (i := 46) (oi := { dst := some 93, op := Op.load 49 (Operand.tmp 4), type := 49, pos := "laws.go:257", after := #[{ on := 45, ground := Ground.guard }], guard := some (45, true) }) (v := ?vE46) rfl (by kernel_rfl) (by kernel_rfl) (by kernel_rfl) (fun _ _ _ h => h) (Or.inl ⟨by rfl, ?hyE46⟩) hHeld ?_
      case hyE46 => (intro w hSw; (try dsimp only at hSw); go_simp <;> with_reducible rfl)
      try simp only [Act.put, List.setIfInBounds_toArray, List.set_cons_zero, List.set_cons_succ]
      refine wpAnyH_take (i := 47) (oi := { dst := some 94, op := Op.load 49 (Operand.tmp 4), type := 49, pos := "laws.go:257", after := #[{ on := 45, ground := Ground.guard }], guard := some (45, true) }) (v := ?vE47) rfl (by kernel_rfl) (by kernel_rfl) (by kernel_rfl) (fun _ _ _ h => h) (Or.inl ⟨by rfl, ?hyE47⟩) hHeld ?_
      case hyE47 => (intro w hSw; (try dsimp only at hSw); go_simp <;> with_reducible rfl)
      try simp only [Act.put, List.setIfInBounds_toArray, List.set_cons_zero, List.set_cons_succ]
      refine wpAnyH_take (i := 49) (oi := { dst := some 96, op := Op.load 49 (Operand.tmp 4), type := 49, pos := "laws.go:257", after := #[{ on := 45, ground := Ground.guard }], guard := some (45, true) }) (v := ?vE49) rfl (by kernel_rfl) (by kernel_rfl) (by kernel_rfl) (fun _ _ _ h => h) (Or.inl ⟨by rfl, ?hyE49⟩) hHeld ?_
      case hyE49 => (intro w hSw; (try dsimp only at hSw); go_simp <;> with_reducible rfl)
      try simp only [Act.put, List.setIfInBounds_toArray, List.set_cons_zero, List.set_cons_succ]
      refine wpAnyH_ready (rs := [48]) (by kernel_rfl) (by simp) ?_
      refine AllReadyH.cons (o := { dst := some 95, op := Op.call { callee := Callee.value (Operand.func 43), args := #[Operand.tmp 93, Operand.tmp 94], argTypes := #[49, 49] }, type := 49, pos := "laws.go:257", after := #[{ on := 46, ground := Ground.data }, { on := 47, ground := Ground.data }, { on := 45, ground := Ground.chain }, { on := 45, ground := Ground.guard }], guard := some (45, true) }) rfl (fun K hK => ?_) AllReadyH.nil
      go_simp
      refine (M3.out _ hHeld.1).mono ?_
      rintro r wy ⟨⟨gS, cS, rfl, HSm⟩, hy⟩
      have hz : Below y.heap.size y wy := grow_on hHeld.1 hy
      clear hHeld hy
      refine hK.out _ _ (HS.out _ hz) (fun hHeld => ?_)
      clear hK K hz
      try simp only [Act.put, List.setIfInBounds_toArray, List.set_cons_zero, List.set_cons_succ]
      refine wpAnyH_ready (rs := [50]) (by kernel_rfl) (by simp) ?_
      refine AllReadyH.cons (o := { dst := some 97, op := Op.call { callee := Callee.value (Operand.func 45), args := #[Operand.tmp 95, Operand.tmp 96], argTypes := #[49, 49] }, type := 4, pos := "laws.go:257", after := #[{ on := 48, ground := Ground.data }, { on := 49, ground := Ground.data }, { on := 48, ground := Ground.chain }, { on := 45, ground := Ground.guard }], guard := some (45, true) }) rfl (fun K hK => ?_) AllReadyH.nil
      go_simp
      refine (S2.out _ _ _ hHeld.1 HSm).mono ?_
      rintro r wy ⟨rfl, hy⟩
      have hz : Below y.heap.size y wy := grow_on hHeld.1 hy
      clear hHeld hy HSm
      refine hK.out _ _ (HS.out _ hz) (fun hHeld => ?_)
      clear hK K hz
      try simp only [Act.put, List.setIfInBounds_toArray, List.set_cons_zero, List.set_cons_succ]
      refine wpAnyH_take (i := 51) (oi := { dst := some 98, op := Op.pick (Operand.tmp 92) (Operand.tmp 97) (Operand.const (Value.bool false)), type := 4, pos := "laws.go:257", after := #[{ on := 45, ground := Ground.data }, { on := 50, ground := Ground.data }], guard := none }) (v := ?vE51) rfl (by kernel_rfl) (by kernel_rfl) (by kernel_rfl) (fun _ _ _ h => h) (Or.inl ⟨by rfl, ?hyE51⟩) hHeld ?_
      case hyE51 => (intro w hSw; (try dsimp only at hSw); go_simp <;> with_reducible rfl)
      try simp only [Act.put, List.setIfInBounds_toArray, List.set_cons_zero, List.set_cons_succ]
      refine wpAnyH_take (i := 52) (oi := { dst := some 99, op := Op.move (Operand.tmp 98), type := 4, pos := "laws.go:257", after := #[{ on := 51, ground := Ground.data }, { on := 50, ground := Ground.chain }], guard := none }) (v := ?vE52) rfl (by kernel_rfl) (by kernel_rfl) (by kernel_rfl) (fun _ _ _ h => h) (Or.inl ⟨by rfl, ?hyE52⟩) hHeld ?_
      case hyE52 => (intro w hSw; (try dsimp only at hSw); go_simp <;> with_reducible rfl)
      try simp only [Act.put, List.setIfInBounds_toArray, List.set_cons_zero, List.set_cons_succ]
      refine wpAnyH_take (i := 53) (oi := { dst := some 100, op := Op.load 49 (Operand.tmp 3), type := 49, pos := "laws.go:257", after := #[{ on := 52, ground := Ground.guard }], guard := some (52, true) }) (v := ?vE53) rfl (by kernel_rfl) (by kernel_rfl) (by kernel_rfl) (fun _ _ _ h => h) (Or.inl ⟨by rfl, ?hyE53⟩) hHeld ?_
      case hyE53 => (intro w hSw; (try dsimp only at hSw); go_simp <;> with_reducible rfl)
      try simp only [Act.put, List.setIfInBounds_toArray, List.set_cons_zero, List.set_cons_succ]
      refine wpAnyH_ready (rs := [54]) (by kernel_rfl) (by simp) ?_
      refine AllReadyH.cons (o := { dst := some 101, op := Op.call { callee := Callee.value (Operand.func 49), args := #[Operand.tmp 100], argTypes := #[49] }, type := 4, pos := "laws.go:257", after := #[{ on := 53, ground := Ground.data }, { on := 52, ground := Ground.chain }, { on := 52, ground := Ground.guard }], guard := some (52, true) }) rfl (fun K hK => ?_) AllReadyH.nil
      go_simp
      refine (OA.out _ hHeld.1).mono ?_
      rintro r wy ⟨rfl, hy⟩
      have hz : Below y.heap.size y wy := grow_on hHeld.1 hy
      clear hHeld hy
      refine hK.out _ _ (HS.out _ hz) (fun hHeld => ?_)
      clear hK K hz
      try simp only [Act.put, List.setIfInBounds_toArray, List.set_cons_zero, List.set_cons_succ]
      refine wpAnyH_take (i := 55) (oi := { dst := some 102, op := Op.unOp UnOp.not 4 (Operand.tmp 101), type := 4, pos := "laws.go:257", after := #[{ on := 54, ground := Ground.data }, { on := 52, ground := Ground.guard }], guard := some (52, true) }) (v := ?vE55) rfl (by kernel_rfl) (by kernel_rfl) (by kernel_rfl) (fun _ _ _ h => h) (Or.inl ⟨by rfl, ?hyE55⟩) hHeld ?_
      case hyE55 => (intro w hSw; (try dsimp only at hSw); go_simp <;> with_reducible rfl)
      try simp only [Act.put, List.setIfInBounds_toArray, List.set_cons_zero, List.set_cons_succ]
      refine wpAnyH_take (i := 56) (oi := { dst := some 103, op := Op.move (Operand.tmp 102), type := 4, pos := "laws.go:257", after := #[{ on := 55, ground := Ground.data }, { on := 54, ground := Ground.chain }, { on := 52, ground := Ground.guard }], guard := some (52, true) }) (v := ?vE56) rfl (by kernel_rfl) (by kernel_rfl) (by kernel_rfl) (fun _ _ _ h => h) (Or.inl ⟨by rfl, ?hyE56⟩) hHeld ?_
      case hyE56 => (intro w hSw; (try dsimp only at hSw); go_simp <;> with_reducible rfl)
      try simp only [Act.put, List.setIfInBounds_toArray, List.set_cons_zero, List.set_cons_succ]
      refine wpAnyH_take (i := 57) (oi := { dst := some 104, op := Op.load 49 (Operand.tmp 4), type := 49, pos := "laws.go:257", after := #[{ on := 56, ground := Ground.guard }], guard := some (56, false) }) (v := undef) rfl (by kernel_rfl) (by kernel_rfl) (by kernel_rfl) (fun _ _ _ h => h) (Or.inr ⟨by rfl, rfl⟩) hHeld ?_
      try simp only [Act.put, List.setIfInBounds_toArray, List.set_cons_zero, List.set_cons_succ]
      refine wpAnyH_ready (rs := [58]) (by kernel_rfl) (by simp) ?_
      refine AllReadyH.cons (o := { dst := some 105, op := Op.call { callee := Callee.value (Operand.func 49), args := #[Operand.tmp 104], argTypes := #[49] }, type := 4, pos := "laws.go:257", after := #[{ on := 57, ground := Ground.data }, { on := 56, ground := Ground.chain }, { on := 56, ground := Ground.guard }], guard := some (56, false) }) rfl (fun K hK => ?_) AllReadyH.nil
      go_simp
      refine hK.out _ _ hHeld (fun hHeld => ?_)
      clear hK K
      try simp only [Act.put, List.setIfInBounds_toArray, List.set_cons_zero, List.set_cons_succ]
      refine wpAnyH_take (i := 59) (oi := { dst := some 106, op := Op.unOp UnOp.not 4 (Operand.tmp 105), type := 4, pos := "laws.go:257", after := #[{ on := 58, ground := Ground.data }, { on := 56, ground := Ground.guard }], guard := some (56, false) }) (v := undef) rfl (by kernel_rfl) (by kernel_rfl) (by kernel_rfl) (fun _ _ _ h => h) (Or.inr ⟨by rfl, rfl⟩) hHeld ?_
      try simp only [Act.put, List.setIfInBounds_toArray, List.set_cons_zero, List.set_cons_succ]
      refine wpAnyH_take (i := 60) (oi := { dst := some 107, op := Op.pick (Operand.tmp 103) (Operand.const (Value.bool true)) (Operand.tmp 106), type := 4, pos := "laws.go:257", after := #[{ on := 56, ground := Ground.data }, { on := 59, ground := Ground.data }, { on := 52, ground := Ground.guard }], guard := some (52, true) }) (v := ?vE60) rfl (by kernel_rfl) (by kernel_rfl) (by kernel_rfl) (fun _ _ _ h => h) (Or.inl ⟨by rfl, ?hyE60⟩) hHeld ?_
      case hyE60 => (intro w hSw; (try dsimp only at hSw); go_simp <;> with_reducible rfl)
      try simp only [Act.put, List.setIfInBounds_toArray, List.set_cons_zero, List.set_cons_succ]
      refine wpAnyH_take (i := 61) (oi := { dst := some 108, op := Op.move (Operand.tmp 107), type := 4, pos := "laws.go:257", after := #[{ on := 60, ground := Ground.data }, { on := 58, ground := Ground.chain }, { on := 52, ground := Ground.guard }], guard := some (52, true) }) (v := ?vE61) rfl (by kernel_rfl) (by kernel_rfl) (by kernel_rfl) (fun _ _ _ h => h) (Or.inl ⟨by rfl, ?hyE61⟩) hHeld ?_
      case hyE61 => (intro w hSw; (try dsimp only at hSw); go_simp <;> with_reducible rfl)
      try simp only [Act.put, List.setIfInBounds_toArray, List.set_cons_zero, List.set_cons_succ]
      refine wpAnyH_take (i := 62) (oi := { dst := some 109, op := Op.load 49 (Operand.tmp 5), type := 49, pos := "laws.go:257", after := #[{ on := 61, ground := Ground.guard }], guard := some (61, false) }) (v := undef) rfl (by kernel_rfl) (by kernel_rfl) (by kernel_rfl) (fun _ _ _ h => h) (Or.inr ⟨by rfl, rfl⟩) hHeld ?_
      try simp only [Act.put, List.setIfInBounds_toArray, List.set_cons_zero, List.set_cons_succ]
      refine wpAnyH_ready (rs := [63]) (by kernel_rfl) (by simp) ?_
      refine AllReadyH.cons (o := { dst := some 110, op := Op.call { callee := Callee.value (Operand.func 49), args := #[Operand.tmp 109], argTypes := #[49] }, type := 4, pos := "laws.go:257", after := #[{ on := 62, ground := Ground.data }, { on := 61, ground := Ground.chain }, { on := 61, ground := Ground.guard }], guard := some (61, false) }) rfl (fun K hK => ?_) AllReadyH.nil
      go_simp
      refine hK.out _ _ hHeld (fun hHeld => ?_)
      clear hK K
      try simp only [Act.put, List.setIfInBounds_toArray, List.set_cons_zero, List.set_cons_succ]
      refine wpAnyH_take (i := 64) (oi := { dst := some 111, op := Op.pick (Operand.tmp 108) (Operand.const (Value.bool true)) (Operand.tmp 110), type := 4, pos := "laws.go:257", after := #[{ on := 61, ground := Ground.data }, { on := 63, ground := Ground.data }, { on := 52, ground := Ground.guard }], guard := some (52, true) }) (v := ?vE64) rfl (by kernel_rfl) (by kernel_rfl) (by kernel_rfl) (fun _ _ _ h => h) (Or.inl ⟨by rfl, ?hyE64⟩) hHeld ?_
      case hyE64 => (intro w hSw; (try dsimp only at hSw); go_simp <;> with_reducible rfl)
      try simp only [Act.put, List.setIfInBounds_toArray, List.set_cons_zero, List.set_cons_succ]
      refine wpAnyH_take (i := 65) (oi := { dst := some 112, op := Op.pick (Operand.tmp 99) (Operand.tmp 111) (Operand.const (Value.bool false)), type := 4, pos := "laws.go:257", after := #[{ on := 52, ground := Ground.data }, { on := 64, ground := Ground.data }], guard := none }) (v := ?vE65) rfl (by kernel_rfl) (by kernel_rfl) (by kernel_rfl) (fun _ _ _ h => h) (Or.inl ⟨by rfl, ?hyE65⟩) hHeld ?_
      case hyE65 => (intro w hSw; (try dsimp only at hSw); go_simp <;> with_reducible rfl)
      try simp only [Act.put, List.setIfInBounds_toArray, List.set_cons_zero, List.set_cons_succ]
      refine wpAnyH_take (i := 66) (oi := { dst := some 2, op := Op.assign (Operand.tmp 112), type := 4, pos := "laws.go:257", after := #[{ on := 65, ground := Ground.data }, { on := 63, ground := Ground.chain }, { on := 0, ground := Ground.phase }, { on := 1, ground := Ground.phase }, { on := 2, ground := Ground.phase }, { on := 3, ground := Ground.phase }, { on := 4, ground := Ground.phase }, { on := 5, ground := Ground.phase }, { on := 6, ground := Ground.phase }, { on := 7, ground := Ground.phase }, { on := 8, ground := Ground.phase }, { on := 9, ground := Ground.phase }, { on := 10, ground := Ground.phase }, { on := 11, ground := Ground.phase }, { on := 12, ground := Ground.phase }, { on := 13, ground := Ground.phase }, { on := 14, ground := Ground.phase }, { on := 15, ground := Ground.phase }, { on := 16, ground := Ground.phase }, { on := 17, ground := Ground.phase }, { on := 18, ground := Ground.phase }, { on := 19, ground := Ground.phase }, { on := 20, ground := Ground.phase }, { on := 21, ground := Ground.phase }, { on := 22, ground := Ground.phase }, { on := 23, ground := Ground.phase }, { on := 24, ground := Ground.phase }, { on := 25, ground := Ground.phase }, { on := 26, ground := Ground.phase }, { on := 27, ground := Ground.phase }, { on := 28, ground := Ground.phase }, { on := 29, ground := Ground.phase }, { on := 30, ground := Ground.phase }, { on := 31, ground := Ground.phase }, { on := 32, ground := Ground.phase }, { on := 33, ground := Ground.phase }, { on := 34, ground := Ground.phase }, { on := 35, ground := Ground.phase }, { on := 36, ground := Ground.phase }, { on := 37, ground := Ground.phase }, { on := 38, ground := Ground.phase }, { on := 39, ground := Ground.phase }, { on := 40, ground := Ground.phase }, { on := 41, ground := Ground.phase }, { on := 42, ground := Ground.phase }, { on := 43, ground := Ground.phase }, { on := 44, ground := Ground.phase }, { on := 45, ground := Ground.phase }, { on := 46, ground := Ground.phase }, { on := 47, ground := Ground.phase }, { on := 48, ground := Ground.phase }, { on := 49, ground := Ground.phase }, { on := 50, ground := Ground.phase }, { on := 51, ground := Ground.phase }, { on := 52, ground := Ground.phase }, { on := 53, ground := Ground.phase }, { on := 54, ground := Ground.phase }, { on := 55, ground := Ground.phase }, { on := 56, ground := Ground.phase }, { on := 57, ground := Ground.phase }, { on := 58, ground := Ground.phase }, { on := 59, ground := Ground.phase }, { on := 60, ground := Ground.phase }, { on := 61, ground := Ground.phase }, { on := 62, ground := Ground.phase }, { on := 63, ground := Ground.phase }, { on := 64, ground := Ground.phase }, { on := 65, ground := Ground.phase }], guard := none }) (v := ?vE66) rfl (by kernel_rfl) (by kernel_rfl) (by kernel_rfl) (fun _ _ _ h => h) (Or.inl ⟨by rfl, ?hyE66⟩) hHeld ?_
      case hyE66 => (intro w hSw; (try dsimp only at hSw); go_simp <;> with_reducible rfl)
      try simp only [Act.put, List.setIfInBounds_toArray, List.set_cons_zero, List.set_cons_succ]
      refine wpAnyH_done (by kernel_rfl) ?_ _
      go_wp2
      go_ret
      exact ⟨rfl, grow_on BY.out hHeld.1⟩
    | true =>
      cases hb : alarmB p2 s2 e2 n2 with
      | false =>
        rw [ha] at OA
        rw [hb] at OB
        clear ha hb HOK
        refine wp_region_held_drew (S := fun w' => Below y.heap.size y w' ∧ w'.cell? ⟨w1.heap.size, 0, none⟩ = some (.slice (some ⟨g1, 0, none⟩) p1.length c1) ∧ w'.cell? ⟨w1.heap.size, 1, none⟩ = some (.int .i64 s1) ∧ w'.cell? ⟨w1.heap.size, 2, none⟩ = some (.int .i64 e1) ∧ w'.cell? ⟨w1.heap.size, 3, none⟩ = some (.string n1) ∧ w'.cell? ⟨(w1.heap.size + 1), 0, none⟩ = some (.slice (some ⟨g2, 0, none⟩) p2.length c2) ∧ w'.cell? ⟨(w1.heap.size + 1), 1, none⟩ = some (.int .i64 s2) ∧ w'.cell? ⟨(w1.heap.size + 1), 2, none⟩ = some (.int .i64 e2) ∧ w'.cell? ⟨(w1.heap.size + 1), 3, none⟩ = some (.string n2) ∧ w'.cell? ⟨w2.heap.size, 0, none⟩ = some (.slice (some ⟨g5, 0, none⟩) p2.length c5) ∧ w'.cell? ⟨w2.heap.size, 1, none⟩ = some (.int .i64 stt) ∧ w'.cell? ⟨w2.heap.size, 2, none⟩ = some (.int .i64 e2) ∧ w'.cell? ⟨w2.heap.size, 3, none⟩ = some (.string n2)) (by kernel_rfl) (HS.out _ kz) (fun hHeld => ?_)
        refine wpAnyH_take (i := 0) (oi := { dst := some 47, op := Op.fieldAddr 49 (Operand.tmp 5) 2, type := 0, pos := "laws.go:257", after := #[], guard := none }) (v := ?vF0) rfl (by kernel_rfl) (by kernel_rfl) (by kernel_rfl) (fun _ _ _ h => h) (Or.inl ⟨by rfl, ?hyF0⟩) hHeld ?_
        case hyF0 => (intro w hSw; (try dsimp only at hSw); go_simp <;> with_reducible rfl)
        try simp only [Act.put, List.setIfInBounds_toArray, List.set_cons_zero, List.set_cons_succ]
        refine wpAnyH_take (i := 1) (oi := { dst := some 48, op := Op.load 3 (Operand.tmp 47), type := 3, pos := "laws.go:257", after := #[{ on := 0, ground := Ground.data }], guard := none }) (v := ?vF1) rfl (by kernel_rfl) (by kernel_rfl) (by kernel_rfl) (fun _ _ _ h => h) (Or.inl ⟨by rfl, ?hyF1⟩) hHeld ?_
        case hyF1 => (intro w hSw; (try dsimp only at hSw); go_simp <;> with_reducible rfl)
        try simp only [Act.put, List.setIfInBounds_toArray, List.set_cons_zero, List.set_cons_succ]
        refine wpAnyH_take (i := 2) (oi := { dst := some 49, op := Op.fieldAddr 49 (Operand.tmp 4) 2, type := 0, pos := "laws.go:257", after := #[], guard := none }) (v := ?vF2) rfl (by kernel_rfl) (by kernel_rfl) (by kernel_rfl) (fun _ _ _ h => h) (Or.inl ⟨by rfl, ?hyF2⟩) hHeld ?_
        case hyF2 => (intro w hSw; (try dsimp only at hSw); go_simp <;> with_reducible rfl)
        try simp only [Act.put, List.setIfInBounds_toArray, List.set_cons_zero, List.set_cons_succ]
        refine wpAnyH_take (i := 3) (oi := { dst := some 50, op := Op.load 3 (Operand.tmp 49), type := 3, pos := "laws.go:257", after := #[{ on := 2, ground := Ground.data }], guard := none }) (v := ?vF3) rfl (by kernel_rfl) (by kernel_rfl) (by kernel_rfl) (fun _ _ _ h => h) (Or.inl ⟨by rfl, ?hyF3⟩) hHeld ?_
        case hyF3 => (intro w hSw; (try dsimp only at hSw); go_simp <;> with_reducible rfl)
        try simp only [Act.put, List.setIfInBounds_toArray, List.set_cons_zero, List.set_cons_succ]
        refine wpAnyH_take (i := 4) (oi := { dst := some 51, op := Op.binOp BinOp.eql 3 (Operand.tmp 48) (Operand.tmp 50) 3, type := 4, pos := "laws.go:257", after := #[{ on := 1, ground := Ground.data }, { on := 3, ground := Ground.data }], guard := none }) (v := ?vF4) rfl (by kernel_rfl) (by kernel_rfl) (by kernel_rfl) (fun _ _ _ h => h) (Or.inl ⟨by rfl, ?hyF4⟩) hHeld ?_
        case hyF4 => (intro w hSw; (try dsimp only at hSw); go_simp <;> with_reducible rfl)
        try simp only [Act.put, List.setIfInBounds_toArray, List.set_cons_zero, List.set_cons_succ]
        refine wpAnyH_take (i := 5) (oi := { dst := some 52, op := Op.move (Operand.tmp 51), type := 4, pos := "laws.go:257", after := #[{ on := 4, ground := Ground.data }], guard := none }) (v := ?vF5) rfl (by kernel_rfl) (by kernel_rfl) (by kernel_rfl) (fun _ _ _ h => h) (Or.inl ⟨by rfl, ?hyF5⟩) hHeld ?_
        case hyF5 => (intro w hSw; (try dsimp only at hSw); go_simp <;> with_reducible rfl)
        try simp only [Act.put, List.setIfInBounds_toArray, List.set_cons_zero, List.set_cons_succ]
        refine wpAnyH_take (i := 6) (oi := { dst := some 53, op := Op.fieldAddr 49 (Operand.tmp 5) 3, type := 0, pos := "laws.go:257", after := #[{ on := 5, ground := Ground.guard }], guard := some (5, true) }) (v := ?vF6) rfl (by kernel_rfl) (by kernel_rfl) (by kernel_rfl) (fun _ _ _ h => h) (Or.inl ⟨by rfl, ?hyF6⟩) hHeld ?_
        case hyF6 => (intro w hSw; (try dsimp only at hSw); go_simp <;> with_reducible rfl)
        try simp only [Act.put, List.setIfInBounds_toArray, List.set_cons_zero, List.set_cons_succ]
        refine wpAnyH_take (i := 7) (oi := { dst := some 54, op := Op.load 9 (Operand.tmp 53), type := 9, pos := "laws.go:257", after := #[{ on := 6, ground := Ground.data }, { on := 5, ground := Ground.guard }], guard := some (5, true) }) (v := ?vF7) rfl (by kernel_rfl) (by kernel_rfl) (by kernel_rfl) (fun _ _ _ h => h) (Or.inl ⟨by rfl, ?hyF7⟩) hHeld ?_
        case hyF7 => (intro w hSw; (try dsimp only at hSw); go_simp <;> with_reducible rfl)
        try simp only [Act.put, List.setIfInBounds_toArray, List.set_cons_zero, List.set_cons_succ]
        refine wpAnyH_take (i := 8) (oi := { dst := some 55, op := Op.fieldAddr 49 (Operand.tmp 4) 3, type := 0, pos := "laws.go:257", after := #[{ on := 5, ground := Ground.guard }], guard := some (5, true) }) (v := ?vF8) rfl (by kernel_rfl) (by kernel_rfl) (by kernel_rfl) (fun _ _ _ h => h) (Or.inl ⟨by rfl, ?hyF8⟩) hHeld ?_
        case hyF8 => (intro w hSw; (try dsimp only at hSw); go_simp <;> with_reducible rfl)
        try simp only [Act.put, List.setIfInBounds_toArray, List.set_cons_zero, List.set_cons_succ]
        refine wpAnyH_take (i := 9) (oi := { dst := some 56, op := Op.load 9 (Operand.tmp 55), type := 9, pos := "laws.go:257", after := #[{ on := 8, ground := Ground.data }, { on := 5, ground := Ground.guard }], guard := some (5, true) }) (v := ?vF9) rfl (by kernel_rfl) (by kernel_rfl) (by kernel_rfl) (fun _ _ _ h => h) (Or.inl ⟨by rfl, ?hyF9⟩) hHeld ?_
        case hyF9 => (intro w hSw; (try dsimp only at hSw); go_simp <;> with_reducible rfl)
        try simp only [Act.put, List.setIfInBounds_toArray, List.set_cons_zero, List.set_cons_succ]
        refine wpAnyH_take (i := 10) (oi := { dst := some 57, op := Op.binOp BinOp.eql 9 (Operand.tmp 54) (Operand.tmp 56) 9, type := 4, pos := "laws.go:257", after := #[{ on := 7, ground := Ground.data }, { on := 9, ground := Ground.data }, { on := 5, ground := Ground.guard }], guard := some (5, true) }) (v := ?vF10) rfl (by kernel_rfl) (by kernel_rfl) (by kernel_rfl) (fun _ _ _ h => h) (Or.inl ⟨by rfl, ?hyF10⟩) hHeld ?_
        case hyF10 => (intro w hSw; (try dsimp only at hSw); go_simp <;> with_reducible rfl)
        try simp only [Act.put, List.setIfInBounds_toArray, List.set_cons_zero, List.set_cons_succ]
        refine wpAnyH_take (i := 11) (oi := { dst := some 58, op := Op.pick (Operand.tmp 52) (Operand.tmp 57) (Operand.const (Value.bool false)), type := 4, pos := "laws.go:257", after := #[{ on := 5, ground := Ground.data }, { on := 10, ground := Ground.data }], guard := none }) (v := ?vF11) rfl (by kernel_rfl) (by kernel_rfl) (by kernel_rfl) (fun _ _ _ h => h) (Or.inl ⟨by rfl, ?hyF11⟩) hHeld ?_
        case hyF11 => (intro w hSw; (try dsimp only at hSw); go_simp <;> with_reducible rfl)
        try simp only [Act.put, List.setIfInBounds_toArray, List.set_cons_zero, List.set_cons_succ]
        refine wpAnyH_take (i := 12) (oi := { dst := some 59, op := Op.move (Operand.tmp 58), type := 4, pos := "laws.go:257", after := #[{ on := 11, ground := Ground.data }, { on := 5, ground := Ground.chain }], guard := none }) (v := ?vF12) rfl (by kernel_rfl) (by kernel_rfl) (by kernel_rfl) (fun _ _ _ h => h) (Or.inl ⟨by rfl, ?hyF12⟩) hHeld ?_
        case hyF12 => (intro w hSw; (try dsimp only at hSw); go_simp <;> with_reducible rfl)
        try simp only [Act.put, List.setIfInBounds_toArray, List.set_cons_zero, List.set_cons_succ]
        refine wpAnyH_take (i := 13) (oi := { dst := some 60, op := Op.fieldAddr 49 (Operand.tmp 5) 0, type := 0, pos := "laws.go:257", after := #[{ on := 12, ground := Ground.guard }], guard := some (12, true) }) (v := ?vF13) rfl (by kernel_rfl) (by kernel_rfl) (by kernel_rfl) (fun _ _ _ h => h) (Or.inl ⟨by rfl, ?hyF13⟩) hHeld ?_
        case hyF13 => (intro w hSw; (try dsimp only at hSw); go_simp <;> with_reducible rfl)
        try simp only [Act.put, List.setIfInBounds_toArray, List.set_cons_zero, List.set_cons_succ]
        refine wpAnyH_take (i := 14) (oi := { dst := some 61, op := Op.load 24 (Operand.tmp 60), type := 24, pos := "laws.go:257", after := #[{ on := 13, ground := Ground.data }, { on := 12, ground := Ground.guard }], guard := some (12, true) }) (v := ?vF14) rfl (by kernel_rfl) (by kernel_rfl) (by kernel_rfl) (fun _ _ _ h => h) (Or.inl ⟨by rfl, ?hyF14⟩) hHeld ?_
        case hyF14 => (intro w hSw; (try dsimp only at hSw); go_simp <;> with_reducible rfl)
        try simp only [Act.put, List.setIfInBounds_toArray, List.set_cons_zero, List.set_cons_succ]
        refine wpAnyH_take (i := 15) (oi := { dst := some 62, op := Op.fieldAddr 49 (Operand.tmp 4) 0, type := 0, pos := "laws.go:257", after := #[{ on := 12, ground := Ground.guard }], guard := some (12, true) }) (v := ?vF15) rfl (by kernel_rfl) (by kernel_rfl) (by kernel_rfl) (fun _ _ _ h => h) (Or.inl ⟨by rfl, ?hyF15⟩) hHeld ?_
        case hyF15 => (intro w hSw; (try dsimp only at hSw); go_simp <;> with_reducible rfl)
        try simp only [Act.put, List.setIfInBounds_toArray, List.set_cons_zero, List.set_cons_succ]
        refine wpAnyH_take (i := 16) (oi := { dst := some 63, op := Op.load 24 (Operand.tmp 62), type := 24, pos := "laws.go:257", after := #[{ on := 15, ground := Ground.data }, { on := 12, ground := Ground.guard }], guard := some (12, true) }) (v := ?vF16) rfl (by kernel_rfl) (by kernel_rfl) (by kernel_rfl) (fun _ _ _ h => h) (Or.inl ⟨by rfl, ?hyF16⟩) hHeld ?_
        case hyF16 => (intro w hSw; (try dsimp only at hSw); go_simp <;> with_reducible rfl)
        try simp only [Act.put, List.setIfInBounds_toArray, List.set_cons_zero, List.set_cons_succ]
        refine wpAnyH_ready (rs := [17]) (by kernel_rfl) (by simp) ?_
        refine AllReadyH.cons (o := { dst := some 64, op := Op.call { callee := Callee.value (Operand.func 18), args := #[Operand.tmp 61, Operand.tmp 63], argTypes := #[24, 24] }, type := 4, pos := "laws.go:257", after := #[{ on := 14, ground := Ground.data }, { on := 16, ground := Ground.data }, { on := 12, ground := Ground.chain }, { on := 12, ground := Ground.guard }], guard := some (12, true) }) rfl (fun K hK => ?_) AllReadyH.nil
        go_simp
        refine (CS.out _ hHeld.1).mono ?_
        rintro r wy ⟨rfl, hy⟩
        have hz : Below y.heap.size y wy := grow_on hHeld.1 hy
        clear hHeld hy
        refine hK.out _ _ (HS.out _ hz) (fun hHeld => ?_)
        clear hK K hz
        try simp only [Act.put, List.setIfInBounds_toArray, List.set_cons_zero, List.set_cons_succ]
        refine wpAnyH_take (i := 18) (oi := { dst := some 65, op := Op.pick (Operand.tmp 59) (Operand.tmp 64) (Operand.const (Value.bool false)), type := 4, pos := "laws.go:257", after := #[{ on := 12, ground := Ground.data }, { on := 17, ground := Ground.data }], guard := none }) (v := ?vF18) rfl (by kernel_rfl) (by kernel_rfl) (by kernel_rfl) (fun _ _ _ h => h) (Or.inl ⟨by rfl, ?hyF18⟩) hHeld ?_
        case hyF18 => (intro w hSw; (try dsimp only at hSw); go_simp <;> with_reducible rfl)
        try simp only [Act.put, List.setIfInBounds_toArray, List.set_cons_zero, List.set_cons_succ]
        refine wpAnyH_take (i := 19) (oi := { dst := some 66, op := Op.move (Operand.tmp 65), type := 4, pos := "laws.go:257", after := #[{ on := 18, ground := Ground.data }, { on := 17, ground := Ground.chain }], guard := none }) (v := ?vF19) rfl (by kernel_rfl) (by kernel_rfl) (by kernel_rfl) (fun _ _ _ h => h) (Or.inl ⟨by rfl, ?hyF19⟩) hHeld ?_
        case hyF19 => (intro w hSw; (try dsimp only at hSw); go_simp <;> with_reducible rfl)
        try simp only [Act.put, List.setIfInBounds_toArray, List.set_cons_zero, List.set_cons_succ]
        refine wpAnyH_take (i := 20) (oi := { dst := some 67, op := Op.fieldAddr 49 (Operand.tmp 5) 1, type := 0, pos := "laws.go:257", after := #[{ on := 19, ground := Ground.guard }], guard := some (19, true) }) (v := ?vF20) rfl (by kernel_rfl) (by kernel_rfl) (by kernel_rfl) (fun _ _ _ h => h) (Or.inl ⟨by rfl, ?hyF20⟩) hHeld ?_
        case hyF20 => (intro w hSw; (try dsimp only at hSw); go_simp <;> with_reducible rfl)
        try simp only [Act.put, List.setIfInBounds_toArray, List.set_cons_zero, List.set_cons_succ]
        refine wpAnyH_take (i := 21) (oi := { dst := some 68, op := Op.load 3 (Operand.tmp 67), type := 3, pos := "laws.go:257", after := #[{ on := 20, ground := Ground.data }, { on := 19, ground := Ground.guard }], guard := some (19, true) }) (v := ?vF21) rfl (by kernel_rfl) (by kernel_rfl) (by kernel_rfl) (fun _ _ _ h => h) (Or.inl ⟨by rfl, ?hyF21⟩) hHeld ?_
        case hyF21 => (intro w hSw; (try dsimp only at hSw); go_simp <;> with_reducible rfl)
        try simp only [Act.put, List.setIfInBounds_toArray, List.set_cons_zero, List.set_cons_succ]
        refine wpAnyH_take (i := 22) (oi := { dst := some 69, op := Op.fieldAddr 49 (Operand.tmp 4) 1, type := 0, pos := "laws.go:257", after := #[{ on := 19, ground := Ground.guard }], guard := some (19, true) }) (v := ?vF22) rfl (by kernel_rfl) (by kernel_rfl) (by kernel_rfl) (fun _ _ _ h => h) (Or.inl ⟨by rfl, ?hyF22⟩) hHeld ?_
        case hyF22 => (intro w hSw; (try dsimp only at hSw); go_simp <;> with_reducible rfl)
        try simp only [Act.put, List.setIfInBounds_toArray, List.set_cons_zero, List.set_cons_succ]
        refine wpAnyH_take (i := 23) (oi := { dst := some 70, op := Op.load 3 (Operand.tmp 69), type := 3, pos := "laws.go:257", after := #[{ on := 22, ground := Ground.data }, { on := 19, ground := Ground.guard }], guard := some (19, true) }) (v := ?vF23) rfl (by kernel_rfl) (by kernel_rfl) (by kernel_rfl) (fun _ _ _ h => h) (Or.inl ⟨by rfl, ?hyF23⟩) hHeld ?_
        case hyF23 => (intro w hSw; (try dsimp only at hSw); go_simp <;> with_reducible rfl)
        try simp only [Act.put, List.setIfInBounds_toArray, List.set_cons_zero, List.set_cons_succ]
        refine wpAnyH_take (i := 24) (oi := { dst := some 71, op := Op.binOp BinOp.leq 3 (Operand.tmp 68) (Operand.tmp 70) 3, type := 4, pos := "laws.go:257", after := #[{ on := 21, ground := Ground.data }, { on := 23, ground := Ground.data }, { on := 19, ground := Ground.guard }], guard := some (19, true) }) (v := ?vF24) rfl (by kernel_rfl) (by kernel_rfl) (by kernel_rfl) (fun _ _ _ h => h) (Or.inl ⟨by rfl, ?hyF24⟩) hHeld ?_
        case hyF24 => (intro w hSw; (try dsimp only at hSw); go_simp <;> with_reducible rfl)
        try simp only [Act.put, List.setIfInBounds_toArray, List.set_cons_zero, List.set_cons_succ]
        refine wpAnyH_take (i := 25) (oi := { dst := some 72, op := Op.pick (Operand.tmp 66) (Operand.tmp 71) (Operand.const (Value.bool false)), type := 4, pos := "laws.go:257", after := #[{ on := 19, ground := Ground.data }, { on := 24, ground := Ground.data }], guard := none }) (v := ?vF25) rfl (by kernel_rfl) (by kernel_rfl) (by kernel_rfl) (fun _ _ _ h => h) (Or.inl ⟨by rfl, ?hyF25⟩) hHeld ?_
        case hyF25 => (intro w hSw; (try dsimp only at hSw); go_simp <;> with_reducible rfl)
        try simp only [Act.put, List.setIfInBounds_toArray, List.set_cons_zero, List.set_cons_succ]
        refine wpAnyH_take (i := 26) (oi := { dst := some 73, op := Op.move (Operand.tmp 72), type := 4, pos := "laws.go:257", after := #[{ on := 25, ground := Ground.data }, { on := 19, ground := Ground.chain }], guard := none }) (v := ?vF26) rfl (by kernel_rfl) (by kernel_rfl) (by kernel_rfl) (fun _ _ _ h => h) (Or.inl ⟨by rfl, ?hyF26⟩) hHeld ?_
        case hyF26 => (intro w hSw; (try dsimp only at hSw); go_simp <;> with_reducible rfl)
        try simp only [Act.put, List.setIfInBounds_toArray, List.set_cons_zero, List.set_cons_succ]
        refine wpAnyH_take (i := 27) (oi := { dst := some 74, op := Op.load 49 (Operand.tmp 3), type := 49, pos := "laws.go:257", after := #[{ on := 26, ground := Ground.guard }], guard := some (26, true) }) (v := ?vF27) rfl (by kernel_rfl) (by kernel_rfl) (by kernel_rfl) (fun _ _ _ h => h) (Or.inl ⟨by rfl, ?hyF27⟩) hHeld ?_
        case hyF27 => (intro w hSw; (try dsimp only at hSw); go_simp <;> with_reducible rfl)
        try simp only [Act.put, List.setIfInBounds_toArray, List.set_cons_zero, List.set_cons_succ]
        refine wpAnyH_take (i := 28) (oi := { dst := some 75, op := Op.load 49 (Operand.tmp 4), type := 49, pos := "laws.go:257", after := #[{ on := 26, ground := Ground.guard }], guard := some (26, true) }) (v := ?vF28) rfl (by kernel_rfl) (by kernel_rfl) (by kernel_rfl) (fun _ _ _ h => h) (Or.inl ⟨by rfl, ?hyF28⟩) hHeld ?_
        case hyF28 => (intro w hSw; (try dsimp only at hSw); go_simp <;> with_reducible rfl)
        try simp only [Act.put, List.setIfInBounds_toArray, List.set_cons_zero, List.set_cons_succ]
        refine wpAnyH_ready (rs := [29]) (by kernel_rfl) (by simp) ?_
        refine AllReadyH.cons (o := { dst := some 76, op := Op.call { callee := Callee.value (Operand.func 47), args := #[Operand.tmp 74, Operand.tmp 75], argTypes := #[49, 49] }, type := 4, pos := "laws.go:257", after := #[{ on := 27, ground := Ground.data }, { on := 28, ground := Ground.data }, { on := 26, ground := Ground.chain }, { on := 26, ground := Ground.guard }], guard := some (26, true) }) rfl (fun K hK => ?_) AllReadyH.nil
        go_simp
        refine (CT.out _ hHeld.1).mono ?_
        rintro r wy ⟨rfl, hy⟩
        have hz : Below y.heap.size y wy := grow_on hHeld.1 hy
        clear hHeld hy
        refine hK.out _ _ (HS.out _ hz) (fun hHeld => ?_)
        clear hK K hz
        try simp only [Act.put, List.setIfInBounds_toArray, List.set_cons_zero, List.set_cons_succ]
        refine wpAnyH_take (i := 30) (oi := { dst := some 77, op := Op.move (Operand.tmp 76), type := 4, pos := "laws.go:257", after := #[{ on := 29, ground := Ground.data }, { on := 29, ground := Ground.chain }, { on := 26, ground := Ground.guard }], guard := some (26, true) }) (v := ?vF30) rfl (by kernel_rfl) (by kernel_rfl) (by kernel_rfl) (fun _ _ _ h => h) (Or.inl ⟨by rfl, ?hyF30⟩) hHeld ?_
        case hyF30 => (intro w hSw; (try dsimp only at hSw); go_simp <;> with_reducible rfl)
        try simp only [Act.put, List.setIfInBounds_toArray, List.set_cons_zero, List.set_cons_succ]
        refine wpAnyH_take (i := 31) (oi := { dst := some 78, op := Op.fieldAddr 49 (Operand.tmp 5) 1, type := 0, pos := "laws.go:257", after := #[{ on := 30, ground := Ground.guard }], guard := some (30, false) }) (v := undef) rfl (by kernel_rfl) (by kernel_rfl) (by kernel_rfl) (fun _ _ _ h => h) (Or.inr ⟨by rfl, rfl⟩) hHeld ?_
        try simp only [Act.put, List.setIfInBounds_toArray, List.set_cons_zero, List.set_cons_succ]
        refine wpAnyH_take (i := 32) (oi := { dst := some 79, op := Op.load 3 (Operand.tmp 78), type := 3, pos := "laws.go:257", after := #[{ on := 31, ground := Ground.data }, { on := 30, ground := Ground.guard }], guard := some (30, false) }) (v := undef) rfl (by kernel_rfl) (by kernel_rfl) (by kernel_rfl) (fun _ _ _ h => h) (Or.inr ⟨by rfl, rfl⟩) hHeld ?_
        try simp only [Act.put, List.setIfInBounds_toArray, List.set_cons_zero, List.set_cons_succ]
        refine wpAnyH_take (i := 33) (oi := { dst := some 80, op := Op.fieldAddr 49 (Operand.tmp 4) 1, type := 0, pos := "laws.go:257", after := #[{ on := 30, ground := Ground.guard }], guard := some (30, false) }) (v := undef) rfl (by kernel_rfl) (by kernel_rfl) (by kernel_rfl) (fun _ _ _ h => h) (Or.inr ⟨by rfl, rfl⟩) hHeld ?_
        try simp only [Act.put, List.setIfInBounds_toArray, List.set_cons_zero, List.set_cons_succ]
        refine wpAnyH_take (i := 34) (oi := { dst := some 81, op := Op.load 3 (Operand.tmp 80), type := 3, pos := "laws.go:257", after := #[{ on := 33, ground := Ground.data }, { on := 30, ground := Ground.guard }], guard := some (30, false) }) (v := undef) rfl (by kernel_rfl) (by kernel_rfl) (by kernel_rfl) (fun _ _ _ h => h) (Or.inr ⟨by rfl, rfl⟩) hHeld ?_
        try simp only [Act.put, List.setIfInBounds_toArray, List.set_cons_zero, List.set_cons_succ]
        refine wpAnyH_take (i := 35) (oi := { dst := some 82, op := Op.binOp BinOp.eql 3 (Operand.tmp 79) (Operand.tmp 81) 3, type := 4, pos := "laws.go:257", after := #[{ on := 32, ground := Ground.data }, { on := 34, ground := Ground.data }, { on := 30, ground := Ground.guard }], guard := some (30, false) }) (v := undef) rfl (by kernel_rfl) (by kernel_rfl) (by kernel_rfl) (fun _ _ _ h => h) (Or.inr ⟨by rfl, rfl⟩) hHeld ?_
        try simp only [Act.put, List.setIfInBounds_toArray, List.set_cons_zero, List.set_cons_succ]
        refine wpAnyH_take (i := 36) (oi := { dst := some 83, op := Op.pick (Operand.tmp 77) (Operand.const (Value.bool true)) (Operand.tmp 82), type := 4, pos := "laws.go:257", after := #[{ on := 30, ground := Ground.data }, { on := 35, ground := Ground.data }, { on := 26, ground := Ground.guard }], guard := some (26, true) }) (v := ?vF36) rfl (by kernel_rfl) (by kernel_rfl) (by kernel_rfl) (fun _ _ _ h => h) (Or.inl ⟨by rfl, ?hyF36⟩) hHeld ?_
        case hyF36 => (intro w hSw; (try dsimp only at hSw); go_simp <;> with_reducible rfl)
        try simp only [Act.put, List.setIfInBounds_toArray, List.set_cons_zero, List.set_cons_succ]
        refine wpAnyH_take (i := 37) (oi := { dst := some 84, op := Op.pick (Operand.tmp 73) (Operand.tmp 83) (Operand.const (Value.bool false)), type := 4, pos := "laws.go:257", after := #[{ on := 26, ground := Ground.data }, { on := 36, ground := Ground.data }], guard := none }) (v := ?vF37) rfl (by kernel_rfl) (by kernel_rfl) (by kernel_rfl) (fun _ _ _ h => h) (Or.inl ⟨by rfl, ?hyF37⟩) hHeld ?_
        case hyF37 => (intro w hSw; (try dsimp only at hSw); go_simp <;> with_reducible rfl)
        try simp only [Act.put, List.setIfInBounds_toArray, List.set_cons_zero, List.set_cons_succ]
        refine wpAnyH_take (i := 38) (oi := { dst := some 85, op := Op.move (Operand.tmp 84), type := 4, pos := "laws.go:257", after := #[{ on := 37, ground := Ground.data }, { on := 30, ground := Ground.chain }], guard := none }) (v := ?vF38) rfl (by kernel_rfl) (by kernel_rfl) (by kernel_rfl) (fun _ _ _ h => h) (Or.inl ⟨by rfl, ?hyF38⟩) hHeld ?_
        case hyF38 => (intro w hSw; (try dsimp only at hSw); go_simp <;> with_reducible rfl)
        try simp only [Act.put, List.setIfInBounds_toArray, List.set_cons_zero, List.set_cons_succ]
        refine wpAnyH_take (i := 39) (oi := { dst := some 86, op := Op.load 49 (Operand.tmp 3), type := 49, pos := "laws.go:257", after := #[{ on := 38, ground := Ground.guard }], guard := some (38, true) }) (v := ?vF39) rfl (by kernel_rfl) (by kernel_rfl) (by kernel_rfl) (fun _ _ _ h => h) (Or.inl ⟨by rfl, ?hyF39⟩) hHeld ?_
        case hyF39 => (intro w hSw; (try dsimp only at hSw); go_simp <;> with_reducible rfl)
        try simp only [Act.put, List.setIfInBounds_toArray, List.set_cons_zero, List.set_cons_succ]
        refine wpAnyH_take (i := 40) (oi := { dst := some 87, op := Op.load 49 (Operand.tmp 5), type := 49, pos := "laws.go:257", after := #[{ on := 38, ground := Ground.guard }], guard := some (38, true) }) (v := ?vF40) rfl (by kernel_rfl) (by kernel_rfl) (by kernel_rfl) (fun _ _ _ h => h) (Or.inl ⟨by rfl, ?hyF40⟩) hHeld ?_
        case hyF40 => (intro w hSw; (try dsimp only at hSw); go_simp <;> with_reducible rfl)
        try simp only [Act.put, List.setIfInBounds_toArray, List.set_cons_zero, List.set_cons_succ]
        refine wpAnyH_take (i := 42) (oi := { dst := some 89, op := Op.load 49 (Operand.tmp 5), type := 49, pos := "laws.go:257", after := #[{ on := 38, ground := Ground.guard }], guard := some (38, true) }) (v := ?vF42) rfl (by kernel_rfl) (by kernel_rfl) (by kernel_rfl) (fun _ _ _ h => h) (Or.inl ⟨by rfl, ?hyF42⟩) hHeld ?_
        case hyF42 => (intro w hSw; (try dsimp only at hSw); go_simp <;> with_reducible rfl)
        try simp only [Act.put, List.setIfInBounds_toArray, List.set_cons_zero, List.set_cons_succ]
        refine wpAnyH_ready (rs := [41]) (by kernel_rfl) (by simp) ?_
        refine AllReadyH.cons (o := { dst := some 88, op := Op.call { callee := Callee.value (Operand.func 43), args := #[Operand.tmp 86, Operand.tmp 87], argTypes := #[49, 49] }, type := 49, pos := "laws.go:257", after := #[{ on := 39, ground := Ground.data }, { on := 40, ground := Ground.data }, { on := 38, ground := Ground.chain }, { on := 38, ground := Ground.guard }], guard := some (38, true) }) rfl (fun K hK => ?_) AllReadyH.nil
        go_simp
        refine (M2.out _ hHeld.1).mono ?_
        rintro r wy ⟨⟨gS, cS, rfl, HSm⟩, hy⟩
        have hz : Below y.heap.size y wy := grow_on hHeld.1 hy
        clear hHeld hy
        refine hK.out _ _ (HS.out _ hz) (fun hHeld => ?_)
        clear hK K hz
        try simp only [Act.put, List.setIfInBounds_toArray, List.set_cons_zero, List.set_cons_succ]
        refine wpAnyH_ready (rs := [43]) (by kernel_rfl) (by simp) ?_
        refine AllReadyH.cons (o := { dst := some 90, op := Op.call { callee := Callee.value (Operand.func 45), args := #[Operand.tmp 88, Operand.tmp 89], argTypes := #[49, 49] }, type := 4, pos := "laws.go:257", after := #[{ on := 41, ground := Ground.data }, { on := 42, ground := Ground.data }, { on := 41, ground := Ground.chain }, { on := 38, ground := Ground.guard }], guard := some (38, true) }) rfl (fun K hK => ?_) AllReadyH.nil
        go_simp
        refine (S1.out _ _ _ hHeld.1 HSm).mono ?_
        rintro r wy ⟨rfl, hy⟩
        have hz : Below y.heap.size y wy := grow_on hHeld.1 hy
        clear hHeld hy HSm
        refine hK.out _ _ (HS.out _ hz) (fun hHeld => ?_)
        clear hK K hz
        try simp only [Act.put, List.setIfInBounds_toArray, List.set_cons_zero, List.set_cons_succ]
        refine wpAnyH_take (i := 44) (oi := { dst := some 91, op := Op.pick (Operand.tmp 85) (Operand.tmp 90) (Operand.const (Value.bool false)), type := 4, pos := "laws.go:257", after := #[{ on := 38, ground := Ground.data }, { on := 43, ground := Ground.data }], guard := none }) (v := ?vF44) rfl (by kernel_rfl) (by kernel_rfl) (by kernel_rfl) (fun _ _ _ h => h) (Or.inl ⟨by rfl, ?hyF44⟩) hHeld ?_
        case hyF44 => (intro w hSw; (try dsimp only at hSw); go_simp <;> with_reducible rfl)
        try simp only [Act.put, List.setIfInBounds_toArray, List.set_cons_zero, List.set_cons_succ]
        refine wpAnyH_take (i := 45) (oi := { dst := some 92, op := Op.move (Operand.tmp 91), type := 4, pos := "laws.go:257", after := #[{ on := 44, ground := Ground.data }, { on := 43, ground := Ground.chain }], guard := none }) (v := ?vF45) rfl (by kernel_rfl) (by kernel_rfl) (by kernel_rfl) (fun _ _ _ h => h) (Or.inl ⟨by rfl, ?hyF45⟩) hHeld ?_
        case hyF45 => (intro w hSw; (try dsimp only at hSw); go_simp <;> with_reducible rfl)
        try simp only [Act.put, List.setIfInBounds_toArray, List.set_cons_zero, List.set_cons_succ]
        refine wpAnyH_take (i := 46) (oi := { dst := some 93, op := Op.load 49 (Operand.tmp 4), type := 49, pos := "laws.go:257", after := #[{ on := 45, ground := Ground.guard }], guard := some (45, true) }) (v := ?vF46) rfl (by kernel_rfl) (by kernel_rfl) (by kernel_rfl) (fun _ _ _ h => h) (Or.inl ⟨by rfl, ?hyF46⟩) hHeld ?_
        case hyF46 => (intro w hSw; (try dsimp only at hSw); go_simp <;> with_reducible rfl)
        try simp only [Act.put, List.setIfInBounds_toArray, List.set_cons_zero, List.set_cons_succ]
        refine wpAnyH_take (i := 47) (oi := { dst := some 94, op := Op.load 49 (Operand.tmp 4), type := 49, pos := "laws.go:257", after := #[{ on := 45, ground := Ground.guard }], guard := some (45, true) }) (v := ?vF47) rfl (by kernel_rfl) (by kernel_rfl) (by kernel_rfl) (fun _ _ _ h => h) (Or.inl ⟨by rfl, ?hyF47⟩) hHeld ?_
        case hyF47 => (intro w hSw; (try dsimp only at hSw); go_simp <;> with_reducible rfl)
        try simp only [Act.put, List.setIfInBounds_toArray, List.set_cons_zero, List.set_cons_succ]
        refine wpAnyH_take (i := 49) (oi := { dst := some 96, op := Op.load 49 (Operand.tmp 4), type := 49, pos := "laws.go:257", after := #[{ on := 45, ground := Ground.guard }], guard := some (45, true) }) (v := ?vF49) rfl (by kernel_rfl) (by kernel_rfl) (by kernel_rfl) (fun _ _ _ h => h) (Or.inl ⟨by rfl, ?hyF49⟩) hHeld ?_
        case hyF49 => (intro w hSw; (try dsimp only at hSw); go_simp <;> with_reducible rfl)
        try simp only [Act.put, List.setIfInBounds_toArray, List.set_cons_zero, List.set_cons_succ]
        refine wpAnyH_ready (rs := [48]) (by kernel_rfl) (by simp) ?_
        refine AllReadyH.cons (o := { dst := some 95, op := Op.call { callee := Callee.value (Operand.func 43), args := #[Operand.tmp 93, Operand.tmp 94], argTypes := #[49, 49] }, type := 49, pos := "laws.go:257", after := #[{ on := 46, ground := Ground.data }, { on := 47, ground := Ground.data }, { on := 45, ground := Ground.chain }, { on := 45, ground := Ground.guard }], guard := some (45, true) }) rfl (fun K hK => ?_) AllReadyH.nil
        go_simp
        refine (M3.out _ hHeld.1).mono ?_
        rintro r wy ⟨⟨gS, cS, rfl, HSm⟩, hy⟩
        have hz : Below y.heap.size y wy := grow_on hHeld.1 hy
        clear hHeld hy
        refine hK.out _ _ (HS.out _ hz) (fun hHeld => ?_)
        clear hK K hz
        try simp only [Act.put, List.setIfInBounds_toArray, List.set_cons_zero, List.set_cons_succ]
        refine wpAnyH_ready (rs := [50]) (by kernel_rfl) (by simp) ?_
        refine AllReadyH.cons (o := { dst := some 97, op := Op.call { callee := Callee.value (Operand.func 45), args := #[Operand.tmp 95, Operand.tmp 96], argTypes := #[49, 49] }, type := 4, pos := "laws.go:257", after := #[{ on := 48, ground := Ground.data }, { on := 49, ground := Ground.data }, { on := 48, ground := Ground.chain }, { on := 45, ground := Ground.guard }], guard := some (45, true) }) rfl (fun K hK => ?_) AllReadyH.nil
        go_simp
        refine (S2.out _ _ _ hHeld.1 HSm).mono ?_
        rintro r wy ⟨rfl, hy⟩
        have hz : Below y.heap.size y wy := grow_on hHeld.1 hy
        clear hHeld hy HSm
        refine hK.out _ _ (HS.out _ hz) (fun hHeld => ?_)
        clear hK K hz
        try simp only [Act.put, List.setIfInBounds_toArray, List.set_cons_zero, List.set_cons_succ]
        refine wpAnyH_take (i := 51) (oi := { dst := some 98, op := Op.pick (Operand.tmp 92) (Operand.tmp 97) (Operand.const (Value.bool false)), type := 4, pos := "laws.go:257", after := #[{ on := 45, ground := Ground.data }, { on := 50, ground := Ground.data }], guard := none }) (v := ?vF51) rfl (by kernel_rfl) (by kernel_rfl) (by kernel_rfl) (fun _ _ _ h => h) (Or.inl ⟨by rfl, ?hyF51⟩) hHeld ?_
        case hyF51 => (intro w hSw; (try dsimp only at hSw); go_simp <;> with_reducible rfl)
        try simp only [Act.put, List.setIfInBounds_toArray, List.set_cons_zero, List.set_cons_succ]
        refine wpAnyH_take (i := 52) (oi := { dst := some 99, op := Op.move (Operand.tmp 98), type := 4, pos := "laws.go:257", after := #[{ on := 51, ground := Ground.data }, { on := 50, ground := Ground.chain }], guard := none }) (v := ?vF52) rfl (by kernel_rfl) (by kernel_rfl) (by kernel_rfl) (fun _ _ _ h => h) (Or.inl ⟨by rfl, ?hyF52⟩) hHeld ?_
        case hyF52 => (intro w hSw; (try dsimp only at hSw); go_simp <;> with_reducible rfl)
        try simp only [Act.put, List.setIfInBounds_toArray, List.set_cons_zero, List.set_cons_succ]
        refine wpAnyH_take (i := 53) (oi := { dst := some 100, op := Op.load 49 (Operand.tmp 3), type := 49, pos := "laws.go:257", after := #[{ on := 52, ground := Ground.guard }], guard := some (52, true) }) (v := ?vF53) rfl (by kernel_rfl) (by kernel_rfl) (by kernel_rfl) (fun _ _ _ h => h) (Or.inl ⟨by rfl, ?hyF53⟩) hHeld ?_
        case hyF53 => (intro w hSw; (try dsimp only at hSw); go_simp <;> with_reducible rfl)
        try simp only [Act.put, List.setIfInBounds_toArray, List.set_cons_zero, List.set_cons_succ]
        refine wpAnyH_ready (rs := [54]) (by kernel_rfl) (by simp) ?_
        refine AllReadyH.cons (o := { dst := some 101, op := Op.call { callee := Callee.value (Operand.func 49), args := #[Operand.tmp 100], argTypes := #[49] }, type := 4, pos := "laws.go:257", after := #[{ on := 53, ground := Ground.data }, { on := 52, ground := Ground.chain }, { on := 52, ground := Ground.guard }], guard := some (52, true) }) rfl (fun K hK => ?_) AllReadyH.nil
        go_simp
        refine (OA.out _ hHeld.1).mono ?_
        rintro r wy ⟨rfl, hy⟩
        have hz : Below y.heap.size y wy := grow_on hHeld.1 hy
        clear hHeld hy
        refine hK.out _ _ (HS.out _ hz) (fun hHeld => ?_)
        clear hK K hz
        try simp only [Act.put, List.setIfInBounds_toArray, List.set_cons_zero, List.set_cons_succ]
        refine wpAnyH_take (i := 55) (oi := { dst := some 102, op := Op.unOp UnOp.not 4 (Operand.tmp 101), type := 4, pos := "laws.go:257", after := #[{ on := 54, ground := Ground.data }, { on := 52, ground := Ground.guard }], guard := some (52, true) }) (v := ?vF55) rfl (by kernel_rfl) (by kernel_rfl) (by kernel_rfl) (fun _ _ _ h => h) (Or.inl ⟨by rfl, ?hyF55⟩) hHeld ?_
        case hyF55 => (intro w hSw; (try dsimp only at hSw); go_simp <;> with_reducible rfl)
        try simp only [Act.put, List.setIfInBounds_toArray, List.set_cons_zero, List.set_cons_succ]
        refine wpAnyH_take (i := 56) (oi := { dst := some 103, op := Op.move (Operand.tmp 102), type := 4, pos := "laws.go:257", after := #[{ on := 55, ground := Ground.data }, { on := 54, ground := Ground.chain }, { on := 52, ground := Ground.guard }], guard := some (52, true) }) (v := ?vF56) rfl (by kernel_rfl) (by kernel_rfl) (by kernel_rfl) (fun _ _ _ h => h) (Or.inl ⟨by rfl, ?hyF56⟩) hHeld ?_
        case hyF56 => (intro w hSw; (try dsimp only at hSw); go_simp <;> with_reducible rfl)
        try simp only [Act.put, List.setIfInBounds_toArray, List.set_cons_zero, List.set_cons_succ]
        refine wpAnyH_take (i := 57) (oi := { dst := some 104, op := Op.load 49 (Operand.tmp 4), type := 49, pos := "laws.go:257", after := #[{ on := 56, ground := Ground.guard }], guard := some (56, false) }) (v := ?vF57) rfl (by kernel_rfl) (by kernel_rfl) (by kernel_rfl) (fun _ _ _ h => h) (Or.inl ⟨by rfl, ?hyF57⟩) hHeld ?_
        case hyF57 => (intro w hSw; (try dsimp only at hSw); go_simp <;> with_reducible rfl)
        try simp only [Act.put, List.setIfInBounds_toArray, List.set_cons_zero, List.set_cons_succ]
        refine wpAnyH_ready (rs := [58]) (by kernel_rfl) (by simp) ?_
        refine AllReadyH.cons (o := { dst := some 105, op := Op.call { callee := Callee.value (Operand.func 49), args := #[Operand.tmp 104], argTypes := #[49] }, type := 4, pos := "laws.go:257", after := #[{ on := 57, ground := Ground.data }, { on := 56, ground := Ground.chain }, { on := 56, ground := Ground.guard }], guard := some (56, false) }) rfl (fun K hK => ?_) AllReadyH.nil
        go_simp
        refine (OB.out _ hHeld.1).mono ?_
        rintro r wy ⟨rfl, hy⟩
        have hz : Below y.heap.size y wy := grow_on hHeld.1 hy
        clear hHeld hy
        refine hK.out _ _ (HS.out _ hz) (fun hHeld => ?_)
        clear hK K hz
        try simp only [Act.put, List.setIfInBounds_toArray, List.set_cons_zero, List.set_cons_succ]
        refine wpAnyH_take (i := 59) (oi := { dst := some 106, op := Op.unOp UnOp.not 4 (Operand.tmp 105), type := 4, pos := "laws.go:257", after := #[{ on := 58, ground := Ground.data }, { on := 56, ground := Ground.guard }], guard := some (56, false) }) (v := ?vF59) rfl (by kernel_rfl) (by kernel_rfl) (by kernel_rfl) (fun _ _ _ h => h) (Or.inl ⟨by rfl, ?hyF59⟩) hHeld ?_
        case hyF59 => (intro w hSw; (try dsimp only at hSw); go_simp <;> with_reducible rfl)
        try simp only [Act.put, List.setIfInBounds_toArray, List.set_cons_zero, List.set_cons_succ]
        refine wpAnyH_take (i := 60) (oi := { dst := some 107, op := Op.pick (Operand.tmp 103) (Operand.const (Value.bool true)) (Operand.tmp 106), type := 4, pos := "laws.go:257", after := #[{ on := 56, ground := Ground.data }, { on := 59, ground := Ground.data }, { on := 52, ground := Ground.guard }], guard := some (52, true) }) (v := ?vF60) rfl (by kernel_rfl) (by kernel_rfl) (by kernel_rfl) (fun _ _ _ h => h) (Or.inl ⟨by rfl, ?hyF60⟩) hHeld ?_
        case hyF60 => (intro w hSw; (try dsimp only at hSw); go_simp <;> with_reducible rfl)
        try simp only [Act.put, List.setIfInBounds_toArray, List.set_cons_zero, List.set_cons_succ]
        refine wpAnyH_take (i := 61) (oi := { dst := some 108, op := Op.move (Operand.tmp 107), type := 4, pos := "laws.go:257", after := #[{ on := 60, ground := Ground.data }, { on := 58, ground := Ground.chain }, { on := 52, ground := Ground.guard }], guard := some (52, true) }) (v := ?vF61) rfl (by kernel_rfl) (by kernel_rfl) (by kernel_rfl) (fun _ _ _ h => h) (Or.inl ⟨by rfl, ?hyF61⟩) hHeld ?_
        case hyF61 => (intro w hSw; (try dsimp only at hSw); go_simp <;> with_reducible rfl)
        try simp only [Act.put, List.setIfInBounds_toArray, List.set_cons_zero, List.set_cons_succ]
        refine wpAnyH_take (i := 62) (oi := { dst := some 109, op := Op.load 49 (Operand.tmp 5), type := 49, pos := "laws.go:257", after := #[{ on := 61, ground := Ground.guard }], guard := some (61, false) }) (v := undef) rfl (by kernel_rfl) (by kernel_rfl) (by kernel_rfl) (fun _ _ _ h => h) (Or.inr ⟨by rfl, rfl⟩) hHeld ?_
        try simp only [Act.put, List.setIfInBounds_toArray, List.set_cons_zero, List.set_cons_succ]
        refine wpAnyH_ready (rs := [63]) (by kernel_rfl) (by simp) ?_
        refine AllReadyH.cons (o := { dst := some 110, op := Op.call { callee := Callee.value (Operand.func 49), args := #[Operand.tmp 109], argTypes := #[49] }, type := 4, pos := "laws.go:257", after := #[{ on := 62, ground := Ground.data }, { on := 61, ground := Ground.chain }, { on := 61, ground := Ground.guard }], guard := some (61, false) }) rfl (fun K hK => ?_) AllReadyH.nil
        go_simp
        refine hK.out _ _ hHeld (fun hHeld => ?_)
        clear hK K
        try simp only [Act.put, List.setIfInBounds_toArray, List.set_cons_zero, List.set_cons_succ]
        refine wpAnyH_take (i := 64) (oi := { dst := some 111, op := Op.pick (Operand.tmp 108) (Operand.const (Value.bool true)) (Operand.tmp 110), type := 4, pos := "laws.go:257", after := #[{ on := 61, ground := Ground.data }, { on := 63, ground := Ground.data }, { on := 52, ground := Ground.guard }], guard := some (52, true) }) (v := ?vF64) rfl (by kernel_rfl) (by kernel_rfl) (by kernel_rfl) (fun _ _ _ h => h) (Or.inl ⟨by rfl, ?hyF64⟩) hHeld ?_
        case hyF64 => (intro w hSw; (try dsimp only at hSw); go_simp <;> with_reducible rfl)
        try simp only [Act.put, List.setIfInBounds_toArray, List.set_cons_zero, List.set_cons_succ]
        refine wpAnyH_take (i := 65) (oi := { dst := some 112, op := Op.pick (Operand.tmp 99) (Operand.tmp 111) (Operand.const (Value.bool false)), type := 4, pos := "laws.go:257", after := #[{ on := 52, ground := Ground.data }, { on := 64, ground := Ground.data }], guard := none }) (v := ?vF65) rfl (by kernel_rfl) (by kernel_rfl) (by kernel_rfl) (fun _ _ _ h => h) (Or.inl ⟨by rfl, ?hyF65⟩) hHeld ?_
        case hyF65 => (intro w hSw; (try dsimp only at hSw); go_simp <;> with_reducible rfl)
        try simp only [Act.put, List.setIfInBounds_toArray, List.set_cons_zero, List.set_cons_succ]
        refine wpAnyH_take (i := 66) (oi := { dst := some 2, op := Op.assign (Operand.tmp 112), type := 4, pos := "laws.go:257", after := #[{ on := 65, ground := Ground.data }, { on := 63, ground := Ground.chain }, { on := 0, ground := Ground.phase }, { on := 1, ground := Ground.phase }, { on := 2, ground := Ground.phase }, { on := 3, ground := Ground.phase }, { on := 4, ground := Ground.phase }, { on := 5, ground := Ground.phase }, { on := 6, ground := Ground.phase }, { on := 7, ground := Ground.phase }, { on := 8, ground := Ground.phase }, { on := 9, ground := Ground.phase }, { on := 10, ground := Ground.phase }, { on := 11, ground := Ground.phase }, { on := 12, ground := Ground.phase }, { on := 13, ground := Ground.phase }, { on := 14, ground := Ground.phase }, { on := 15, ground := Ground.phase }, { on := 16, ground := Ground.phase }, { on := 17, ground := Ground.phase }, { on := 18, ground := Ground.phase }, { on := 19, ground := Ground.phase }, { on := 20, ground := Ground.phase }, { on := 21, ground := Ground.phase }, { on := 22, ground := Ground.phase }, { on := 23, ground := Ground.phase }, { on := 24, ground := Ground.phase }, { on := 25, ground := Ground.phase }, { on := 26, ground := Ground.phase }, { on := 27, ground := Ground.phase }, { on := 28, ground := Ground.phase }, { on := 29, ground := Ground.phase }, { on := 30, ground := Ground.phase }, { on := 31, ground := Ground.phase }, { on := 32, ground := Ground.phase }, { on := 33, ground := Ground.phase }, { on := 34, ground := Ground.phase }, { on := 35, ground := Ground.phase }, { on := 36, ground := Ground.phase }, { on := 37, ground := Ground.phase }, { on := 38, ground := Ground.phase }, { on := 39, ground := Ground.phase }, { on := 40, ground := Ground.phase }, { on := 41, ground := Ground.phase }, { on := 42, ground := Ground.phase }, { on := 43, ground := Ground.phase }, { on := 44, ground := Ground.phase }, { on := 45, ground := Ground.phase }, { on := 46, ground := Ground.phase }, { on := 47, ground := Ground.phase }, { on := 48, ground := Ground.phase }, { on := 49, ground := Ground.phase }, { on := 50, ground := Ground.phase }, { on := 51, ground := Ground.phase }, { on := 52, ground := Ground.phase }, { on := 53, ground := Ground.phase }, { on := 54, ground := Ground.phase }, { on := 55, ground := Ground.phase }, { on := 56, ground := Ground.phase }, { on := 57, ground := Ground.phase }, { on := 58, ground := Ground.phase }, { on := 59, ground := Ground.phase }, { on := 60, ground := Ground.phase }, { on := 61, ground := Ground.phase }, { on := 62, ground := Ground.phase }, { on := 63, ground := Ground.phase }, { on := 64, ground := Ground.phase }, { on := 65, ground := Ground.phase }], guard := none }) (v := ?vF66) rfl (by kernel_rfl) (by kernel_rfl) (by kernel_rfl) (fun _ _ _ h => h) (Or.inl ⟨by rfl, ?hyF66⟩) hHeld ?_
        case hyF66 => (intro w hSw; (try dsimp only at hSw); go_simp <;> with_reducible rfl)
        try simp only [Act.put, List.setIfInBounds_toArray, List.set_cons_zero, List.set_cons_succ]
        refine wpAnyH_done (by kernel_rfl) ?_ _
        go_wp2
        go_ret
        exact ⟨rfl, grow_on BY.out hHeld.1⟩
      | true =>
        have hm := HOK.out ha hb
        rw [ha] at OA
        rw [hb] at OB
        rw [hm] at OM
        clear ha hb hm HOK
        refine wp_region_held_drew (S := fun w' => Below y.heap.size y w' ∧ w'.cell? ⟨w1.heap.size, 0, none⟩ = some (.slice (some ⟨g1, 0, none⟩) p1.length c1) ∧ w'.cell? ⟨w1.heap.size, 1, none⟩ = some (.int .i64 s1) ∧ w'.cell? ⟨w1.heap.size, 2, none⟩ = some (.int .i64 e1) ∧ w'.cell? ⟨w1.heap.size, 3, none⟩ = some (.string n1) ∧ w'.cell? ⟨(w1.heap.size + 1), 0, none⟩ = some (.slice (some ⟨g2, 0, none⟩) p2.length c2) ∧ w'.cell? ⟨(w1.heap.size + 1), 1, none⟩ = some (.int .i64 s2) ∧ w'.cell? ⟨(w1.heap.size + 1), 2, none⟩ = some (.int .i64 e2) ∧ w'.cell? ⟨(w1.heap.size + 1), 3, none⟩ = some (.string n2) ∧ w'.cell? ⟨w2.heap.size, 0, none⟩ = some (.slice (some ⟨g5, 0, none⟩) p2.length c5) ∧ w'.cell? ⟨w2.heap.size, 1, none⟩ = some (.int .i64 stt) ∧ w'.cell? ⟨w2.heap.size, 2, none⟩ = some (.int .i64 e2) ∧ w'.cell? ⟨w2.heap.size, 3, none⟩ = some (.string n2)) (by kernel_rfl) (HS.out _ kz) (fun hHeld => ?_)
        refine wpAnyH_take (i := 0) (oi := { dst := some 47, op := Op.fieldAddr 49 (Operand.tmp 5) 2, type := 0, pos := "laws.go:257", after := #[], guard := none }) (v := ?vG0) rfl (by kernel_rfl) (by kernel_rfl) (by kernel_rfl) (fun _ _ _ h => h) (Or.inl ⟨by rfl, ?hyG0⟩) hHeld ?_
        case hyG0 => (intro w hSw; (try dsimp only at hSw); go_simp <;> with_reducible rfl)
        try simp only [Act.put, List.setIfInBounds_toArray, List.set_cons_zero, List.set_cons_succ]
        refine wpAnyH_take (i := 1) (oi := { dst := some 48, op := Op.load 3 (Operand.tmp 47), type := 3, pos := "laws.go:257", after := #[{ on := 0, ground := Ground.data }], guard := none }) (v := ?vG1) rfl (by kernel_rfl) (by kernel_rfl) (by kernel_rfl) (fun _ _ _ h => h) (Or.inl ⟨by rfl, ?hyG1⟩) hHeld ?_
        case hyG1 => (intro w hSw; (try dsimp only at hSw); go_simp <;> with_reducible rfl)
        try simp only [Act.put, List.setIfInBounds_toArray, List.set_cons_zero, List.set_cons_succ]
        refine wpAnyH_take (i := 2) (oi := { dst := some 49, op := Op.fieldAddr 49 (Operand.tmp 4) 2, type := 0, pos := "laws.go:257", after := #[], guard := none }) (v := ?vG2) rfl (by kernel_rfl) (by kernel_rfl) (by kernel_rfl) (fun _ _ _ h => h) (Or.inl ⟨by rfl, ?hyG2⟩) hHeld ?_
        case hyG2 => (intro w hSw; (try dsimp only at hSw); go_simp <;> with_reducible rfl)
        try simp only [Act.put, List.setIfInBounds_toArray, List.set_cons_zero, List.set_cons_succ]
        refine wpAnyH_take (i := 3) (oi := { dst := some 50, op := Op.load 3 (Operand.tmp 49), type := 3, pos := "laws.go:257", after := #[{ on := 2, ground := Ground.data }], guard := none }) (v := ?vG3) rfl (by kernel_rfl) (by kernel_rfl) (by kernel_rfl) (fun _ _ _ h => h) (Or.inl ⟨by rfl, ?hyG3⟩) hHeld ?_
        case hyG3 => (intro w hSw; (try dsimp only at hSw); go_simp <;> with_reducible rfl)
        try simp only [Act.put, List.setIfInBounds_toArray, List.set_cons_zero, List.set_cons_succ]
        refine wpAnyH_take (i := 4) (oi := { dst := some 51, op := Op.binOp BinOp.eql 3 (Operand.tmp 48) (Operand.tmp 50) 3, type := 4, pos := "laws.go:257", after := #[{ on := 1, ground := Ground.data }, { on := 3, ground := Ground.data }], guard := none }) (v := ?vG4) rfl (by kernel_rfl) (by kernel_rfl) (by kernel_rfl) (fun _ _ _ h => h) (Or.inl ⟨by rfl, ?hyG4⟩) hHeld ?_
        case hyG4 => (intro w hSw; (try dsimp only at hSw); go_simp <;> with_reducible rfl)
        try simp only [Act.put, List.setIfInBounds_toArray, List.set_cons_zero, List.set_cons_succ]
        refine wpAnyH_take (i := 5) (oi := { dst := some 52, op := Op.move (Operand.tmp 51), type := 4, pos := "laws.go:257", after := #[{ on := 4, ground := Ground.data }], guard := none }) (v := ?vG5) rfl (by kernel_rfl) (by kernel_rfl) (by kernel_rfl) (fun _ _ _ h => h) (Or.inl ⟨by rfl, ?hyG5⟩) hHeld ?_
        case hyG5 => (intro w hSw; (try dsimp only at hSw); go_simp <;> with_reducible rfl)
        try simp only [Act.put, List.setIfInBounds_toArray, List.set_cons_zero, List.set_cons_succ]
        refine wpAnyH_take (i := 6) (oi := { dst := some 53, op := Op.fieldAddr 49 (Operand.tmp 5) 3, type := 0, pos := "laws.go:257", after := #[{ on := 5, ground := Ground.guard }], guard := some (5, true) }) (v := ?vG6) rfl (by kernel_rfl) (by kernel_rfl) (by kernel_rfl) (fun _ _ _ h => h) (Or.inl ⟨by rfl, ?hyG6⟩) hHeld ?_
        case hyG6 => (intro w hSw; (try dsimp only at hSw); go_simp <;> with_reducible rfl)
        try simp only [Act.put, List.setIfInBounds_toArray, List.set_cons_zero, List.set_cons_succ]
        refine wpAnyH_take (i := 7) (oi := { dst := some 54, op := Op.load 9 (Operand.tmp 53), type := 9, pos := "laws.go:257", after := #[{ on := 6, ground := Ground.data }, { on := 5, ground := Ground.guard }], guard := some (5, true) }) (v := ?vG7) rfl (by kernel_rfl) (by kernel_rfl) (by kernel_rfl) (fun _ _ _ h => h) (Or.inl ⟨by rfl, ?hyG7⟩) hHeld ?_
        case hyG7 => (intro w hSw; (try dsimp only at hSw); go_simp <;> with_reducible rfl)
        try simp only [Act.put, List.setIfInBounds_toArray, List.set_cons_zero, List.set_cons_succ]
        refine wpAnyH_take (i := 8) (oi := { dst := some 55, op := Op.fieldAddr 49 (Operand.tmp 4) 3, type := 0, pos := "laws.go:257", after := #[{ on := 5, ground := Ground.guard }], guard := some (5, true) }) (v := ?vG8) rfl (by kernel_rfl) (by kernel_rfl) (by kernel_rfl) (fun _ _ _ h => h) (Or.inl ⟨by rfl, ?hyG8⟩) hHeld ?_
        case hyG8 => (intro w hSw; (try dsimp only at hSw); go_simp <;> with_reducible rfl)
        try simp only [Act.put, List.setIfInBounds_toArray, List.set_cons_zero, List.set_cons_succ]
        refine wpAnyH_take (i := 9) (oi := { dst := some 56, op := Op.load 9 (Operand.tmp 55), type := 9, pos := "laws.go:257", after := #[{ on := 8, ground := Ground.data }, { on := 5, ground := Ground.guard }], guard := some (5, true) }) (v := ?vG9) rfl (by kernel_rfl) (by kernel_rfl) (by kernel_rfl) (fun _ _ _ h => h) (Or.inl ⟨by rfl, ?hyG9⟩) hHeld ?_
        case hyG9 => (intro w hSw; (try dsimp only at hSw); go_simp <;> with_reducible rfl)
        try simp only [Act.put, List.setIfInBounds_toArray, List.set_cons_zero, List.set_cons_succ]
        refine wpAnyH_take (i := 10) (oi := { dst := some 57, op := Op.binOp BinOp.eql 9 (Operand.tmp 54) (Operand.tmp 56) 9, type := 4, pos := "laws.go:257", after := #[{ on := 7, ground := Ground.data }, { on := 9, ground := Ground.data }, { on := 5, ground := Ground.guard }], guard := some (5, true) }) (v := ?vG10) rfl (by kernel_rfl) (by kernel_rfl) (by kernel_rfl) (fun _ _ _ h => h) (Or.inl ⟨by rfl, ?hyG10⟩) hHeld ?_
        case hyG10 => (intro w hSw; (try dsimp only at hSw); go_simp <;> with_reducible rfl)
        try simp only [Act.put, List.setIfInBounds_toArray, List.set_cons_zero, List.set_cons_succ]
        refine wpAnyH_take (i := 11) (oi := { dst := some 58, op := Op.pick (Operand.tmp 52) (Operand.tmp 57) (Operand.const (Value.bool false)), type := 4, pos := "laws.go:257", after := #[{ on := 5, ground := Ground.data }, { on := 10, ground := Ground.data }], guard := none }) (v := ?vG11) rfl (by kernel_rfl) (by kernel_rfl) (by kernel_rfl) (fun _ _ _ h => h) (Or.inl ⟨by rfl, ?hyG11⟩) hHeld ?_
        case hyG11 => (intro w hSw; (try dsimp only at hSw); go_simp <;> with_reducible rfl)
        try simp only [Act.put, List.setIfInBounds_toArray, List.set_cons_zero, List.set_cons_succ]
        refine wpAnyH_take (i := 12) (oi := { dst := some 59, op := Op.move (Operand.tmp 58), type := 4, pos := "laws.go:257", after := #[{ on := 11, ground := Ground.data }, { on := 5, ground := Ground.chain }], guard := none }) (v := ?vG12) rfl (by kernel_rfl) (by kernel_rfl) (by kernel_rfl) (fun _ _ _ h => h) (Or.inl ⟨by rfl, ?hyG12⟩) hHeld ?_
        case hyG12 => (intro w hSw; (try dsimp only at hSw); go_simp <;> with_reducible rfl)
        try simp only [Act.put, List.setIfInBounds_toArray, List.set_cons_zero, List.set_cons_succ]
        refine wpAnyH_take (i := 13) (oi := { dst := some 60, op := Op.fieldAddr 49 (Operand.tmp 5) 0, type := 0, pos := "laws.go:257", after := #[{ on := 12, ground := Ground.guard }], guard := some (12, true) }) (v := ?vG13) rfl (by kernel_rfl) (by kernel_rfl) (by kernel_rfl) (fun _ _ _ h => h) (Or.inl ⟨by rfl, ?hyG13⟩) hHeld ?_
        case hyG13 => (intro w hSw; (try dsimp only at hSw); go_simp <;> with_reducible rfl)
        try simp only [Act.put, List.setIfInBounds_toArray, List.set_cons_zero, List.set_cons_succ]
        refine wpAnyH_take (i := 14) (oi := { dst := some 61, op := Op.load 24 (Operand.tmp 60), type := 24, pos := "laws.go:257", after := #[{ on := 13, ground := Ground.data }, { on := 12, ground := Ground.guard }], guard := some (12, true) }) (v := ?vG14) rfl (by kernel_rfl) (by kernel_rfl) (by kernel_rfl) (fun _ _ _ h => h) (Or.inl ⟨by rfl, ?hyG14⟩) hHeld ?_
        case hyG14 => (intro w hSw; (try dsimp only at hSw); go_simp <;> with_reducible rfl)
        try simp only [Act.put, List.setIfInBounds_toArray, List.set_cons_zero, List.set_cons_succ]
        refine wpAnyH_take (i := 15) (oi := { dst := some 62, op := Op.fieldAddr 49 (Operand.tmp 4) 0, type := 0, pos := "laws.go:257", after := #[{ on := 12, ground := Ground.guard }], guard := some (12, true) }) (v := ?vG15) rfl (by kernel_rfl) (by kernel_rfl) (by kernel_rfl) (fun _ _ _ h => h) (Or.inl ⟨by rfl, ?hyG15⟩) hHeld ?_
        case hyG15 => (intro w hSw; (try dsimp only at hSw); go_simp <;> with_reducible rfl)
        try simp only [Act.put, List.setIfInBounds_toArray, List.set_cons_zero, List.set_cons_succ]
        refine wpAnyH_take (i := 16) (oi := { dst := some 63, op := Op.load 24 (Operand.tmp 62), type := 24, pos := "laws.go:257", after := #[{ on := 15, ground := Ground.data }, { on := 12, ground := Ground.guard }], guard := some (12, true) }) (v := ?vG16) rfl (by kernel_rfl) (by kernel_rfl) (by kernel_rfl) (fun _ _ _ h => h) (Or.inl ⟨by rfl, ?hyG16⟩) hHeld ?_
        case hyG16 => (intro w hSw; (try dsimp only at hSw); go_simp <;> with_reducible rfl)
        try simp only [Act.put, List.setIfInBounds_toArray, List.set_cons_zero, List.set_cons_succ]
        refine wpAnyH_ready (rs := [17]) (by kernel_rfl) (by simp) ?_
        refine AllReadyH.cons (o := { dst := some 64, op := Op.call { callee := Callee.value (Operand.func 18), args := #[Operand.tmp 61, Operand.tmp 63], argTypes := #[24, 24] }, type := 4, pos := "laws.go:257", after := #[{ on := 14, ground := Ground.data }, { on := 16, ground := Ground.data }, { on := 12, ground := Ground.chain }, { on := 12, ground := Ground.guard }], guard := some (12, true) }) rfl (fun K hK => ?_) AllReadyH.nil
        go_simp
        refine (CS.out _ hHeld.1).mono ?_
        rintro r wy ⟨rfl, hy⟩
        have hz : Below y.heap.size y wy := grow_on hHeld.1 hy
        clear hHeld hy
        refine hK.out _ _ (HS.out _ hz) (fun hHeld => ?_)
        clear hK K hz
        try simp only [Act.put, List.setIfInBounds_toArray, List.set_cons_zero, List.set_cons_succ]
        refine wpAnyH_take (i := 18) (oi := { dst := some 65, op := Op.pick (Operand.tmp 59) (Operand.tmp 64) (Operand.const (Value.bool false)), type := 4, pos := "laws.go:257", after := #[{ on := 12, ground := Ground.data }, { on := 17, ground := Ground.data }], guard := none }) (v := ?vG18) rfl (by kernel_rfl) (by kernel_rfl) (by kernel_rfl) (fun _ _ _ h => h) (Or.inl ⟨by rfl, ?hyG18⟩) hHeld ?_
        case hyG18 => (intro w hSw; (try dsimp only at hSw); go_simp <;> with_reducible rfl)
        try simp only [Act.put, List.setIfInBounds_toArray, List.set_cons_zero, List.set_cons_succ]
        refine wpAnyH_take (i := 19) (oi := { dst := some 66, op := Op.move (Operand.tmp 65), type := 4, pos := "laws.go:257", after := #[{ on := 18, ground := Ground.data }, { on := 17, ground := Ground.chain }], guard := none }) (v := ?vG19) rfl (by kernel_rfl) (by kernel_rfl) (by kernel_rfl) (fun _ _ _ h => h) (Or.inl ⟨by rfl, ?hyG19⟩) hHeld ?_
        case hyG19 => (intro w hSw; (try dsimp only at hSw); go_simp <;> with_reducible rfl)
        try simp only [Act.put, List.setIfInBounds_toArray, List.set_cons_zero, List.set_cons_succ]
        refine wpAnyH_take (i := 20) (oi := { dst := some 67, op := Op.fieldAddr 49 (Operand.tmp 5) 1, type := 0, pos := "laws.go:257", after := #[{ on := 19, ground := Ground.guard }], guard := some (19, true) }) (v := ?vG20) rfl (by kernel_rfl) (by kernel_rfl) (by kernel_rfl) (fun _ _ _ h => h) (Or.inl ⟨by rfl, ?hyG20⟩) hHeld ?_
        case hyG20 => (intro w hSw; (try dsimp only at hSw); go_simp <;> with_reducible rfl)
        try simp only [Act.put, List.setIfInBounds_toArray, List.set_cons_zero, List.set_cons_succ]
        refine wpAnyH_take (i := 21) (oi := { dst := some 68, op := Op.load 3 (Operand.tmp 67), type := 3, pos := "laws.go:257", after := #[{ on := 20, ground := Ground.data }, { on := 19, ground := Ground.guard }], guard := some (19, true) }) (v := ?vG21) rfl (by kernel_rfl) (by kernel_rfl) (by kernel_rfl) (fun _ _ _ h => h) (Or.inl ⟨by rfl, ?hyG21⟩) hHeld ?_
        case hyG21 => (intro w hSw; (try dsimp only at hSw); go_simp <;> with_reducible rfl)
        try simp only [Act.put, List.setIfInBounds_toArray, List.set_cons_zero, List.set_cons_succ]
        refine wpAnyH_take (i := 22) (oi := { dst := some 69, op := Op.fieldAddr 49 (Operand.tmp 4) 1, type := 0, pos := "laws.go:257", after := #[{ on := 19, ground := Ground.guard }], guard := some (19, true) }) (v := ?vG22) rfl (by kernel_rfl) (by kernel_rfl) (by kernel_rfl) (fun _ _ _ h => h) (Or.inl ⟨by rfl, ?hyG22⟩) hHeld ?_
        case hyG22 => (intro w hSw; (try dsimp only at hSw); go_simp <;> with_reducible rfl)
        try simp only [Act.put, List.setIfInBounds_toArray, List.set_cons_zero, List.set_cons_succ]
        refine wpAnyH_take (i := 23) (oi := { dst := some 70, op := Op.load 3 (Operand.tmp 69), type := 3, pos := "laws.go:257", after := #[{ on := 22, ground := Ground.data }, { on := 19, ground := Ground.guard }], guard := some (19, true) }) (v := ?vG23) rfl (by kernel_rfl) (by kernel_rfl) (by kernel_rfl) (fun _ _ _ h => h) (Or.inl ⟨by rfl, ?hyG23⟩) hHeld ?_
        case hyG23 => (intro w hSw; (try dsimp only at hSw); go_simp <;> with_reducible rfl)
        try simp only [Act.put, List.setIfInBounds_toArray, List.set_cons_zero, List.set_cons_succ]
        refine wpAnyH_take (i := 24) (oi := { dst := some 71, op := Op.binOp BinOp.leq 3 (Operand.tmp 68) (Operand.tmp 70) 3, type := 4, pos := "laws.go:257", after := #[{ on := 21, ground := Ground.data }, { on := 23, ground := Ground.data }, { on := 19, ground := Ground.guard }], guard := some (19, true) }) (v := ?vG24) rfl (by kernel_rfl) (by kernel_rfl) (by kernel_rfl) (fun _ _ _ h => h) (Or.inl ⟨by rfl, ?hyG24⟩) hHeld ?_
        case hyG24 => (intro w hSw; (try dsimp only at hSw); go_simp <;> with_reducible rfl)
        try simp only [Act.put, List.setIfInBounds_toArray, List.set_cons_zero, List.set_cons_succ]
        refine wpAnyH_take (i := 25) (oi := { dst := some 72, op := Op.pick (Operand.tmp 66) (Operand.tmp 71) (Operand.const (Value.bool false)), type := 4, pos := "laws.go:257", after := #[{ on := 19, ground := Ground.data }, { on := 24, ground := Ground.data }], guard := none }) (v := ?vG25) rfl (by kernel_rfl) (by kernel_rfl) (by kernel_rfl) (fun _ _ _ h => h) (Or.inl ⟨by rfl, ?hyG25⟩) hHeld ?_
        case hyG25 => (intro w hSw; (try dsimp only at hSw); go_simp <;> with_reducible rfl)
        try simp only [Act.put, List.setIfInBounds_toArray, List.set_cons_zero, List.set_cons_succ]
        refine wpAnyH_take (i := 26) (oi := { dst := some 73, op := Op.move (Operand.tmp 72), type := 4, pos := "laws.go:257", after := #[{ on := 25, ground := Ground.data }, { on := 19, ground := Ground.chain }], guard := none }) (v := ?vG26) rfl (by kernel_rfl) (by kernel_rfl) (by kernel_rfl) (fun _ _ _ h => h) (Or.inl ⟨by rfl, ?hyG26⟩) hHeld ?_
        case hyG26 => (intro w hSw; (try dsimp only at hSw); go_simp <;> with_reducible rfl)
        try simp only [Act.put, List.setIfInBounds_toArray, List.set_cons_zero, List.set_cons_succ]
        refine wpAnyH_take (i := 27) (oi := { dst := some 74, op := Op.load 49 (Operand.tmp 3), type := 49, pos := "laws.go:257", after := #[{ on := 26, ground := Ground.guard }], guard := some (26, true) }) (v := ?vG27) rfl (by kernel_rfl) (by kernel_rfl) (by kernel_rfl) (fun _ _ _ h => h) (Or.inl ⟨by rfl, ?hyG27⟩) hHeld ?_
        case hyG27 => (intro w hSw; (try dsimp only at hSw); go_simp <;> with_reducible rfl)
        try simp only [Act.put, List.setIfInBounds_toArray, List.set_cons_zero, List.set_cons_succ]
        refine wpAnyH_take (i := 28) (oi := { dst := some 75, op := Op.load 49 (Operand.tmp 4), type := 49, pos := "laws.go:257", after := #[{ on := 26, ground := Ground.guard }], guard := some (26, true) }) (v := ?vG28) rfl (by kernel_rfl) (by kernel_rfl) (by kernel_rfl) (fun _ _ _ h => h) (Or.inl ⟨by rfl, ?hyG28⟩) hHeld ?_
        case hyG28 => (intro w hSw; (try dsimp only at hSw); go_simp <;> with_reducible rfl)
        try simp only [Act.put, List.setIfInBounds_toArray, List.set_cons_zero, List.set_cons_succ]
        refine wpAnyH_ready (rs := [29]) (by kernel_rfl) (by simp) ?_
        refine AllReadyH.cons (o := { dst := some 76, op := Op.call { callee := Callee.value (Operand.func 47), args := #[Operand.tmp 74, Operand.tmp 75], argTypes := #[49, 49] }, type := 4, pos := "laws.go:257", after := #[{ on := 27, ground := Ground.data }, { on := 28, ground := Ground.data }, { on := 26, ground := Ground.chain }, { on := 26, ground := Ground.guard }], guard := some (26, true) }) rfl (fun K hK => ?_) AllReadyH.nil
        go_simp
        refine (CT.out _ hHeld.1).mono ?_
        rintro r wy ⟨rfl, hy⟩
        have hz : Below y.heap.size y wy := grow_on hHeld.1 hy
        clear hHeld hy
        refine hK.out _ _ (HS.out _ hz) (fun hHeld => ?_)
        clear hK K hz
        try simp only [Act.put, List.setIfInBounds_toArray, List.set_cons_zero, List.set_cons_succ]
        refine wpAnyH_take (i := 30) (oi := { dst := some 77, op := Op.move (Operand.tmp 76), type := 4, pos := "laws.go:257", after := #[{ on := 29, ground := Ground.data }, { on := 29, ground := Ground.chain }, { on := 26, ground := Ground.guard }], guard := some (26, true) }) (v := ?vG30) rfl (by kernel_rfl) (by kernel_rfl) (by kernel_rfl) (fun _ _ _ h => h) (Or.inl ⟨by rfl, ?hyG30⟩) hHeld ?_
        case hyG30 => (intro w hSw; (try dsimp only at hSw); go_simp <;> with_reducible rfl)
        try simp only [Act.put, List.setIfInBounds_toArray, List.set_cons_zero, List.set_cons_succ]
        refine wpAnyH_take (i := 31) (oi := { dst := some 78, op := Op.fieldAddr 49 (Operand.tmp 5) 1, type := 0, pos := "laws.go:257", after := #[{ on := 30, ground := Ground.guard }], guard := some (30, false) }) (v := undef) rfl (by kernel_rfl) (by kernel_rfl) (by kernel_rfl) (fun _ _ _ h => h) (Or.inr ⟨by rfl, rfl⟩) hHeld ?_
        try simp only [Act.put, List.setIfInBounds_toArray, List.set_cons_zero, List.set_cons_succ]
        refine wpAnyH_take (i := 32) (oi := { dst := some 79, op := Op.load 3 (Operand.tmp 78), type := 3, pos := "laws.go:257", after := #[{ on := 31, ground := Ground.data }, { on := 30, ground := Ground.guard }], guard := some (30, false) }) (v := undef) rfl (by kernel_rfl) (by kernel_rfl) (by kernel_rfl) (fun _ _ _ h => h) (Or.inr ⟨by rfl, rfl⟩) hHeld ?_
        try simp only [Act.put, List.setIfInBounds_toArray, List.set_cons_zero, List.set_cons_succ]
        refine wpAnyH_take (i := 33) (oi := { dst := some 80, op := Op.fieldAddr 49 (Operand.tmp 4) 1, type := 0, pos := "laws.go:257", after := #[{ on := 30, ground := Ground.guard }], guard := some (30, false) }) (v := undef) rfl (by kernel_rfl) (by kernel_rfl) (by kernel_rfl) (fun _ _ _ h => h) (Or.inr ⟨by rfl, rfl⟩) hHeld ?_
        try simp only [Act.put, List.setIfInBounds_toArray, List.set_cons_zero, List.set_cons_succ]
        refine wpAnyH_take (i := 34) (oi := { dst := some 81, op := Op.load 3 (Operand.tmp 80), type := 3, pos := "laws.go:257", after := #[{ on := 33, ground := Ground.data }, { on := 30, ground := Ground.guard }], guard := some (30, false) }) (v := undef) rfl (by kernel_rfl) (by kernel_rfl) (by kernel_rfl) (fun _ _ _ h => h) (Or.inr ⟨by rfl, rfl⟩) hHeld ?_
        try simp only [Act.put, List.setIfInBounds_toArray, List.set_cons_zero, List.set_cons_succ]
        refine wpAnyH_take (i := 35) (oi := { dst := some 82, op := Op.binOp BinOp.eql 3 (Operand.tmp 79) (Operand.tmp 81) 3, type := 4, pos := "laws.go:257", after := #[{ on := 32, ground := Ground.data }, { on := 34, ground := Ground.data }, { on := 30, ground := Ground.guard }], guard := some (30, false) }) (v := undef) rfl (by kernel_rfl) (by kernel_rfl) (by kernel_rfl) (fun _ _ _ h => h) (Or.inr ⟨by rfl, rfl⟩) hHeld ?_
        try simp only [Act.put, List.setIfInBounds_toArray, List.set_cons_zero, List.set_cons_succ]
        refine wpAnyH_take (i := 36) (oi := { dst := some 83, op := Op.pick (Operand.tmp 77) (Operand.const (Value.bool true)) (Operand.tmp 82), type := 4, pos := "laws.go:257", after := #[{ on := 30, ground := Ground.data }, { on := 35, ground := Ground.data }, { on := 26, ground := Ground.guard }], guard := some (26, true) }) (v := ?vG36) rfl (by kernel_rfl) (by kernel_rfl) (by kernel_rfl) (fun _ _ _ h => h) (Or.inl ⟨by rfl, ?hyG36⟩) hHeld ?_
        case hyG36 => (intro w hSw; (try dsimp only at hSw); go_simp <;> with_reducible rfl)
        try simp only [Act.put, List.setIfInBounds_toArray, List.set_cons_zero, List.set_cons_succ]
        refine wpAnyH_take (i := 37) (oi := { dst := some 84, op := Op.pick (Operand.tmp 73) (Operand.tmp 83) (Operand.const (Value.bool false)), type := 4, pos := "laws.go:257", after := #[{ on := 26, ground := Ground.data }, { on := 36, ground := Ground.data }], guard := none }) (v := ?vG37) rfl (by kernel_rfl) (by kernel_rfl) (by kernel_rfl) (fun _ _ _ h => h) (Or.inl ⟨by rfl, ?hyG37⟩) hHeld ?_
        case hyG37 => (intro w hSw; (try dsimp only at hSw); go_simp <;> with_reducible rfl)
        try simp only [Act.put, List.setIfInBounds_toArray, List.set_cons_zero, List.set_cons_succ]
        refine wpAnyH_take (i := 38) (oi := { dst := some 85, op := Op.move (Operand.tmp 84), type := 4, pos := "laws.go:257", after := #[{ on := 37, ground := Ground.data }, { on := 30, ground := Ground.chain }], guard := none }) (v := ?vG38) rfl (by kernel_rfl) (by kernel_rfl) (by kernel_rfl) (fun _ _ _ h => h) (Or.inl ⟨by rfl, ?hyG38⟩) hHeld ?_
        case hyG38 => (intro w hSw; (try dsimp only at hSw); go_simp <;> with_reducible rfl)
        try simp only [Act.put, List.setIfInBounds_toArray, List.set_cons_zero, List.set_cons_succ]
        refine wpAnyH_take (i := 39) (oi := { dst := some 86, op := Op.load 49 (Operand.tmp 3), type := 49, pos := "laws.go:257", after := #[{ on := 38, ground := Ground.guard }], guard := some (38, true) }) (v := ?vG39) rfl (by kernel_rfl) (by kernel_rfl) (by kernel_rfl) (fun _ _ _ h => h) (Or.inl ⟨by rfl, ?hyG39⟩) hHeld ?_
        case hyG39 => (intro w hSw; (try dsimp only at hSw); go_simp <;> with_reducible rfl)
        try simp only [Act.put, List.setIfInBounds_toArray, List.set_cons_zero, List.set_cons_succ]
        refine wpAnyH_take (i := 40) (oi := { dst := some 87, op := Op.load 49 (Operand.tmp 5), type := 49, pos := "laws.go:257", after := #[{ on := 38, ground := Ground.guard }], guard := some (38, true) }) (v := ?vG40) rfl (by kernel_rfl) (by kernel_rfl) (by kernel_rfl) (fun _ _ _ h => h) (Or.inl ⟨by rfl, ?hyG40⟩) hHeld ?_
        case hyG40 => (intro w hSw; (try dsimp only at hSw); go_simp <;> with_reducible rfl)
        try simp only [Act.put, List.setIfInBounds_toArray, List.set_cons_zero, List.set_cons_succ]
        refine wpAnyH_take (i := 42) (oi := { dst := some 89, op := Op.load 49 (Operand.tmp 5), type := 49, pos := "laws.go:257", after := #[{ on := 38, ground := Ground.guard }], guard := some (38, true) }) (v := ?vG42) rfl (by kernel_rfl) (by kernel_rfl) (by kernel_rfl) (fun _ _ _ h => h) (Or.inl ⟨by rfl, ?hyG42⟩) hHeld ?_
        case hyG42 => (intro w hSw; (try dsimp only at hSw); go_simp <;> with_reducible rfl)
        try simp only [Act.put, List.setIfInBounds_toArray, List.set_cons_zero, List.set_cons_succ]
        refine wpAnyH_ready (rs := [41]) (by kernel_rfl) (by simp) ?_
        refine AllReadyH.cons (o := { dst := some 88, op := Op.call { callee := Callee.value (Operand.func 43), args := #[Operand.tmp 86, Operand.tmp 87], argTypes := #[49, 49] }, type := 49, pos := "laws.go:257", after := #[{ on := 39, ground := Ground.data }, { on := 40, ground := Ground.data }, { on := 38, ground := Ground.chain }, { on := 38, ground := Ground.guard }], guard := some (38, true) }) rfl (fun K hK => ?_) AllReadyH.nil
        go_simp
        refine (M2.out _ hHeld.1).mono ?_
        rintro r wy ⟨⟨gS, cS, rfl, HSm⟩, hy⟩
        have hz : Below y.heap.size y wy := grow_on hHeld.1 hy
        clear hHeld hy
        refine hK.out _ _ (HS.out _ hz) (fun hHeld => ?_)
        clear hK K hz
        try simp only [Act.put, List.setIfInBounds_toArray, List.set_cons_zero, List.set_cons_succ]
        refine wpAnyH_ready (rs := [43]) (by kernel_rfl) (by simp) ?_
        refine AllReadyH.cons (o := { dst := some 90, op := Op.call { callee := Callee.value (Operand.func 45), args := #[Operand.tmp 88, Operand.tmp 89], argTypes := #[49, 49] }, type := 4, pos := "laws.go:257", after := #[{ on := 41, ground := Ground.data }, { on := 42, ground := Ground.data }, { on := 41, ground := Ground.chain }, { on := 38, ground := Ground.guard }], guard := some (38, true) }) rfl (fun K hK => ?_) AllReadyH.nil
        go_simp
        refine (S1.out _ _ _ hHeld.1 HSm).mono ?_
        rintro r wy ⟨rfl, hy⟩
        have hz : Below y.heap.size y wy := grow_on hHeld.1 hy
        clear hHeld hy HSm
        refine hK.out _ _ (HS.out _ hz) (fun hHeld => ?_)
        clear hK K hz
        try simp only [Act.put, List.setIfInBounds_toArray, List.set_cons_zero, List.set_cons_succ]
        refine wpAnyH_take (i := 44) (oi := { dst := some 91, op := Op.pick (Operand.tmp 85) (Operand.tmp 90) (Operand.const (Value.bool false)), type := 4, pos := "laws.go:257", after := #[{ on := 38, ground := Ground.data }, { on := 43, ground := Ground.data }], guard := none }) (v := ?vG44) rfl (by kernel_rfl) (by kernel_rfl) (by kernel_rfl) (fun _ _ _ h => h) (Or.inl ⟨by rfl, ?hyG44⟩) hHeld ?_
        case hyG44 => (intro w hSw; (try dsimp only at hSw); go_simp <;> with_reducible rfl)
        try simp only [Act.put, List.setIfInBounds_toArray, List.set_cons_zero, List.set_cons_succ]
        refine wpAnyH_take (i := 45) (oi := { dst := some 92, op := Op.move (Operand.tmp 91), type := 4, pos := "laws.go:257", after := #[{ on := 44, ground := Ground.data }, { on := 43, ground := Ground.chain }], guard := none }) (v := ?vG45) rfl (by kernel_rfl) (by kernel_rfl) (by kernel_rfl) (fun _ _ _ h => h) (Or.inl ⟨by rfl, ?hyG45⟩) hHeld ?_
        case hyG45 => (intro w hSw; (try dsimp only at hSw); go_simp <;> with_reducible rfl)
        try simp only [Act.put, List.setIfInBounds_toArray, List.set_cons_zero, List.set_cons_succ]
        refine wpAnyH_take (i := 46) (oi := { dst := some 93, op := Op.load 49 (Operand.tmp 4), type := 49, pos := "laws.go:257", after := #[{ on := 45, ground := Ground.guard }], guard := some (45, true) }) (v := ?vG46) rfl (by kernel_rfl) (by kernel_rfl) (by kernel_rfl) (fun _ _ _ h => h) (Or.inl ⟨by rfl, ?hyG46⟩) hHeld ?_
        case hyG46 => (intro w hSw; (try dsimp only at hSw); go_simp <;> with_reducible rfl)
        try simp only [Act.put, List.setIfInBounds_toArray, List.set_cons_zero, List.set_cons_succ]
        refine wpAnyH_take (i := 47) (oi := { dst := some 94, op := Op.load 49 (Operand.tmp 4), type := 49, pos := "laws.go:257", after := #[{ on := 45, ground := Ground.guard }], guard := some (45, true) }) (v := ?vG47) rfl (by kernel_rfl) (by kernel_rfl) (by kernel_rfl) (fun _ _ _ h => h) (Or.inl ⟨by rfl, ?hyG47⟩) hHeld ?_
        case hyG47 => (intro w hSw; (try dsimp only at hSw); go_simp <;> with_reducible rfl)
        try simp only [Act.put, List.setIfInBounds_toArray, List.set_cons_zero, List.set_cons_succ]
        refine wpAnyH_take (i := 49) (oi := { dst := some 96, op := Op.load 49 (Operand.tmp 4), type := 49, pos := "laws.go:257", after := #[{ on := 45, ground := Ground.guard }], guard := some (45, true) }) (v := ?vG49) rfl (by kernel_rfl) (by kernel_rfl) (by kernel_rfl) (fun _ _ _ h => h) (Or.inl ⟨by rfl, ?hyG49⟩) hHeld ?_
        case hyG49 => (intro w hSw; (try dsimp only at hSw); go_simp <;> with_reducible rfl)
        try simp only [Act.put, List.setIfInBounds_toArray, List.set_cons_zero, List.set_cons_succ]
        refine wpAnyH_ready (rs := [48]) (by kernel_rfl) (by simp) ?_
        refine AllReadyH.cons (o := { dst := some 95, op := Op.call { callee := Callee.value (Operand.func 43), args := #[Operand.tmp 93, Operand.tmp 94], argTypes := #[49, 49] }, type := 49, pos := "laws.go:257", after := #[{ on := 46, ground := Ground.data }, { on := 47, ground := Ground.data }, { on := 45, ground := Ground.chain }, { on := 45, ground := Ground.guard }], guard := some (45, true) }) rfl (fun K hK => ?_) AllReadyH.nil
        go_simp
        refine (M3.out _ hHeld.1).mono ?_
        rintro r wy ⟨⟨gS, cS, rfl, HSm⟩, hy⟩
        have hz : Below y.heap.size y wy := grow_on hHeld.1 hy
        clear hHeld hy
        refine hK.out _ _ (HS.out _ hz) (fun hHeld => ?_)
        clear hK K hz
        try simp only [Act.put, List.setIfInBounds_toArray, List.set_cons_zero, List.set_cons_succ]
        refine wpAnyH_ready (rs := [50]) (by kernel_rfl) (by simp) ?_
        refine AllReadyH.cons (o := { dst := some 97, op := Op.call { callee := Callee.value (Operand.func 45), args := #[Operand.tmp 95, Operand.tmp 96], argTypes := #[49, 49] }, type := 4, pos := "laws.go:257", after := #[{ on := 48, ground := Ground.data }, { on := 49, ground := Ground.data }, { on := 48, ground := Ground.chain }, { on := 45, ground := Ground.guard }], guard := some (45, true) }) rfl (fun K hK => ?_) AllReadyH.nil
        go_simp
        refine (S2.out _ _ _ hHeld.1 HSm).mono ?_
        rintro r wy ⟨rfl, hy⟩
        have hz : Below y.heap.size y wy := grow_on hHeld.1 hy
        clear hHeld hy HSm
        refine hK.out _ _ (HS.out _ hz) (fun hHeld => ?_)
        clear hK K hz
        try simp only [Act.put, List.setIfInBounds_toArray, List.set_cons_zero, List.set_cons_succ]
        refine wpAnyH_take (i := 51) (oi := { dst := some 98, op := Op.pick (Operand.tmp 92) (Operand.tmp 97) (Operand.const (Value.bool false)), type := 4, pos := "laws.go:257", after := #[{ on := 45, ground := Ground.data }, { on := 50, ground := Ground.data }], guard := none }) (v := ?vG51) rfl (by kernel_rfl) (by kernel_rfl) (by kernel_rfl) (fun _ _ _ h => h) (Or.inl ⟨by rfl, ?hyG51⟩) hHeld ?_
        case hyG51 => (intro w hSw; (try dsimp only at hSw); go_simp <;> with_reducible rfl)
        try simp only [Act.put, List.setIfInBounds_toArray, List.set_cons_zero, List.set_cons_succ]
        refine wpAnyH_take (i := 52) (oi := { dst := some 99, op := Op.move (Operand.tmp 98), type := 4, pos := "laws.go:257", after := #[{ on := 51, ground := Ground.data }, { on := 50, ground := Ground.chain }], guard := none }) (v := ?vG52) rfl (by kernel_rfl) (by kernel_rfl) (by kernel_rfl) (fun _ _ _ h => h) (Or.inl ⟨by rfl, ?hyG52⟩) hHeld ?_
        case hyG52 => (intro w hSw; (try dsimp only at hSw); go_simp <;> with_reducible rfl)
        try simp only [Act.put, List.setIfInBounds_toArray, List.set_cons_zero, List.set_cons_succ]
        refine wpAnyH_take (i := 53) (oi := { dst := some 100, op := Op.load 49 (Operand.tmp 3), type := 49, pos := "laws.go:257", after := #[{ on := 52, ground := Ground.guard }], guard := some (52, true) }) (v := ?vG53) rfl (by kernel_rfl) (by kernel_rfl) (by kernel_rfl) (fun _ _ _ h => h) (Or.inl ⟨by rfl, ?hyG53⟩) hHeld ?_
        case hyG53 => (intro w hSw; (try dsimp only at hSw); go_simp <;> with_reducible rfl)
        try simp only [Act.put, List.setIfInBounds_toArray, List.set_cons_zero, List.set_cons_succ]
        refine wpAnyH_ready (rs := [54]) (by kernel_rfl) (by simp) ?_
        refine AllReadyH.cons (o := { dst := some 101, op := Op.call { callee := Callee.value (Operand.func 49), args := #[Operand.tmp 100], argTypes := #[49] }, type := 4, pos := "laws.go:257", after := #[{ on := 53, ground := Ground.data }, { on := 52, ground := Ground.chain }, { on := 52, ground := Ground.guard }], guard := some (52, true) }) rfl (fun K hK => ?_) AllReadyH.nil
        go_simp
        refine (OA.out _ hHeld.1).mono ?_
        rintro r wy ⟨rfl, hy⟩
        have hz : Below y.heap.size y wy := grow_on hHeld.1 hy
        clear hHeld hy
        refine hK.out _ _ (HS.out _ hz) (fun hHeld => ?_)
        clear hK K hz
        try simp only [Act.put, List.setIfInBounds_toArray, List.set_cons_zero, List.set_cons_succ]
        refine wpAnyH_take (i := 55) (oi := { dst := some 102, op := Op.unOp UnOp.not 4 (Operand.tmp 101), type := 4, pos := "laws.go:257", after := #[{ on := 54, ground := Ground.data }, { on := 52, ground := Ground.guard }], guard := some (52, true) }) (v := ?vG55) rfl (by kernel_rfl) (by kernel_rfl) (by kernel_rfl) (fun _ _ _ h => h) (Or.inl ⟨by rfl, ?hyG55⟩) hHeld ?_
        case hyG55 => (intro w hSw; (try dsimp only at hSw); go_simp <;> with_reducible rfl)
        try simp only [Act.put, List.setIfInBounds_toArray, List.set_cons_zero, List.set_cons_succ]
        refine wpAnyH_take (i := 56) (oi := { dst := some 103, op := Op.move (Operand.tmp 102), type := 4, pos := "laws.go:257", after := #[{ on := 55, ground := Ground.data }, { on := 54, ground := Ground.chain }, { on := 52, ground := Ground.guard }], guard := some (52, true) }) (v := ?vG56) rfl (by kernel_rfl) (by kernel_rfl) (by kernel_rfl) (fun _ _ _ h => h) (Or.inl ⟨by rfl, ?hyG56⟩) hHeld ?_
        case hyG56 => (intro w hSw; (try dsimp only at hSw); go_simp <;> with_reducible rfl)
        try simp only [Act.put, List.setIfInBounds_toArray, List.set_cons_zero, List.set_cons_succ]
        refine wpAnyH_take (i := 57) (oi := { dst := some 104, op := Op.load 49 (Operand.tmp 4), type := 49, pos := "laws.go:257", after := #[{ on := 56, ground := Ground.guard }], guard := some (56, false) }) (v := ?vG57) rfl (by kernel_rfl) (by kernel_rfl) (by kernel_rfl) (fun _ _ _ h => h) (Or.inl ⟨by rfl, ?hyG57⟩) hHeld ?_
        case hyG57 => (intro w hSw; (try dsimp only at hSw); go_simp <;> with_reducible rfl)
        try simp only [Act.put, List.setIfInBounds_toArray, List.set_cons_zero, List.set_cons_succ]
        refine wpAnyH_ready (rs := [58]) (by kernel_rfl) (by simp) ?_
        refine AllReadyH.cons (o := { dst := some 105, op := Op.call { callee := Callee.value (Operand.func 49), args := #[Operand.tmp 104], argTypes := #[49] }, type := 4, pos := "laws.go:257", after := #[{ on := 57, ground := Ground.data }, { on := 56, ground := Ground.chain }, { on := 56, ground := Ground.guard }], guard := some (56, false) }) rfl (fun K hK => ?_) AllReadyH.nil
        go_simp
        refine (OB.out _ hHeld.1).mono ?_
        rintro r wy ⟨rfl, hy⟩
        have hz : Below y.heap.size y wy := grow_on hHeld.1 hy
        clear hHeld hy
        refine hK.out _ _ (HS.out _ hz) (fun hHeld => ?_)
        clear hK K hz
        try simp only [Act.put, List.setIfInBounds_toArray, List.set_cons_zero, List.set_cons_succ]
        refine wpAnyH_take (i := 59) (oi := { dst := some 106, op := Op.unOp UnOp.not 4 (Operand.tmp 105), type := 4, pos := "laws.go:257", after := #[{ on := 58, ground := Ground.data }, { on := 56, ground := Ground.guard }], guard := some (56, false) }) (v := ?vG59) rfl (by kernel_rfl) (by kernel_rfl) (by kernel_rfl) (fun _ _ _ h => h) (Or.inl ⟨by rfl, ?hyG59⟩) hHeld ?_
        case hyG59 => (intro w hSw; (try dsimp only at hSw); go_simp <;> with_reducible rfl)
        try simp only [Act.put, List.setIfInBounds_toArray, List.set_cons_zero, List.set_cons_succ]
        refine wpAnyH_take (i := 60) (oi := { dst := some 107, op := Op.pick (Operand.tmp 103) (Operand.const (Value.bool true)) (Operand.tmp 106), type := 4, pos := "laws.go:257", after := #[{ on := 56, ground := Ground.data }, { on := 59, ground := Ground.data }, { on := 52, ground := Ground.guard }], guard := some (52, true) }) (v := ?vG60) rfl (by kernel_rfl) (by kernel_rfl) (by kernel_rfl) (fun _ _ _ h => h) (Or.inl ⟨by rfl, ?hyG60⟩) hHeld ?_
        case hyG60 => (intro w hSw; (try dsimp only at hSw); go_simp <;> with_reducible rfl)
        try simp only [Act.put, List.setIfInBounds_toArray, List.set_cons_zero, List.set_cons_succ]
        refine wpAnyH_take (i := 61) (oi := { dst := some 108, op := Op.move (Operand.tmp 107), type := 4, pos := "laws.go:257", after := #[{ on := 60, ground := Ground.data }, { on := 58, ground := Ground.chain }, { on := 52, ground := Ground.guard }], guard := some (52, true) }) (v := ?vG61) rfl (by kernel_rfl) (by kernel_rfl) (by kernel_rfl) (fun _ _ _ h => h) (Or.inl ⟨by rfl, ?hyG61⟩) hHeld ?_
        case hyG61 => (intro w hSw; (try dsimp only at hSw); go_simp <;> with_reducible rfl)
        try simp only [Act.put, List.setIfInBounds_toArray, List.set_cons_zero, List.set_cons_succ]
        refine wpAnyH_take (i := 62) (oi := { dst := some 109, op := Op.load 49 (Operand.tmp 5), type := 49, pos := "laws.go:257", after := #[{ on := 61, ground := Ground.guard }], guard := some (61, false) }) (v := ?vG62) rfl (by kernel_rfl) (by kernel_rfl) (by kernel_rfl) (fun _ _ _ h => h) (Or.inl ⟨by rfl, ?hyG62⟩) hHeld ?_
        case hyG62 => (intro w hSw; (try dsimp only at hSw); go_simp <;> with_reducible rfl)
        try simp only [Act.put, List.setIfInBounds_toArray, List.set_cons_zero, List.set_cons_succ]
        refine wpAnyH_ready (rs := [63]) (by kernel_rfl) (by simp) ?_
        refine AllReadyH.cons (o := { dst := some 110, op := Op.call { callee := Callee.value (Operand.func 49), args := #[Operand.tmp 109], argTypes := #[49] }, type := 4, pos := "laws.go:257", after := #[{ on := 62, ground := Ground.data }, { on := 61, ground := Ground.chain }, { on := 61, ground := Ground.guard }], guard := some (61, false) }) rfl (fun K hK => ?_) AllReadyH.nil
        go_simp
        refine (OM.out _ hHeld.1).mono ?_
        rintro r wy ⟨rfl, hy⟩
        have hz : Below y.heap.size y wy := grow_on hHeld.1 hy
        clear hHeld hy
        refine hK.out _ _ (HS.out _ hz) (fun hHeld => ?_)
        clear hK K hz
        try simp only [Act.put, List.setIfInBounds_toArray, List.set_cons_zero, List.set_cons_succ]
        refine wpAnyH_take (i := 64) (oi := { dst := some 111, op := Op.pick (Operand.tmp 108) (Operand.const (Value.bool true)) (Operand.tmp 110), type := 4, pos := "laws.go:257", after := #[{ on := 61, ground := Ground.data }, { on := 63, ground := Ground.data }, { on := 52, ground := Ground.guard }], guard := some (52, true) }) (v := ?vG64) rfl (by kernel_rfl) (by kernel_rfl) (by kernel_rfl) (fun _ _ _ h => h) (Or.inl ⟨by rfl, ?hyG64⟩) hHeld ?_
        case hyG64 => (intro w hSw; (try dsimp only at hSw); go_simp <;> with_reducible rfl)
        try simp only [Act.put, List.setIfInBounds_toArray, List.set_cons_zero, List.set_cons_succ]
        refine wpAnyH_take (i := 65) (oi := { dst := some 112, op := Op.pick (Operand.tmp 99) (Operand.tmp 111) (Operand.const (Value.bool false)), type := 4, pos := "laws.go:257", after := #[{ on := 52, ground := Ground.data }, { on := 64, ground := Ground.data }], guard := none }) (v := ?vG65) rfl (by kernel_rfl) (by kernel_rfl) (by kernel_rfl) (fun _ _ _ h => h) (Or.inl ⟨by rfl, ?hyG65⟩) hHeld ?_
        case hyG65 => (intro w hSw; (try dsimp only at hSw); go_simp <;> with_reducible rfl)
        try simp only [Act.put, List.setIfInBounds_toArray, List.set_cons_zero, List.set_cons_succ]
        refine wpAnyH_take (i := 66) (oi := { dst := some 2, op := Op.assign (Operand.tmp 112), type := 4, pos := "laws.go:257", after := #[{ on := 65, ground := Ground.data }, { on := 63, ground := Ground.chain }, { on := 0, ground := Ground.phase }, { on := 1, ground := Ground.phase }, { on := 2, ground := Ground.phase }, { on := 3, ground := Ground.phase }, { on := 4, ground := Ground.phase }, { on := 5, ground := Ground.phase }, { on := 6, ground := Ground.phase }, { on := 7, ground := Ground.phase }, { on := 8, ground := Ground.phase }, { on := 9, ground := Ground.phase }, { on := 10, ground := Ground.phase }, { on := 11, ground := Ground.phase }, { on := 12, ground := Ground.phase }, { on := 13, ground := Ground.phase }, { on := 14, ground := Ground.phase }, { on := 15, ground := Ground.phase }, { on := 16, ground := Ground.phase }, { on := 17, ground := Ground.phase }, { on := 18, ground := Ground.phase }, { on := 19, ground := Ground.phase }, { on := 20, ground := Ground.phase }, { on := 21, ground := Ground.phase }, { on := 22, ground := Ground.phase }, { on := 23, ground := Ground.phase }, { on := 24, ground := Ground.phase }, { on := 25, ground := Ground.phase }, { on := 26, ground := Ground.phase }, { on := 27, ground := Ground.phase }, { on := 28, ground := Ground.phase }, { on := 29, ground := Ground.phase }, { on := 30, ground := Ground.phase }, { on := 31, ground := Ground.phase }, { on := 32, ground := Ground.phase }, { on := 33, ground := Ground.phase }, { on := 34, ground := Ground.phase }, { on := 35, ground := Ground.phase }, { on := 36, ground := Ground.phase }, { on := 37, ground := Ground.phase }, { on := 38, ground := Ground.phase }, { on := 39, ground := Ground.phase }, { on := 40, ground := Ground.phase }, { on := 41, ground := Ground.phase }, { on := 42, ground := Ground.phase }, { on := 43, ground := Ground.phase }, { on := 44, ground := Ground.phase }, { on := 45, ground := Ground.phase }, { on := 46, ground := Ground.phase }, { on := 47, ground := Ground.phase }, { on := 48, ground := Ground.phase }, { on := 49, ground := Ground.phase }, { on := 50, ground := Ground.phase }, { on := 51, ground := Ground.phase }, { on := 52, ground := Ground.phase }, { on := 53, ground := Ground.phase }, { on := 54, ground := Ground.phase }, { on := 55, ground := Ground.phase }, { on := 56, ground := Ground.phase }, { on := 57, ground := Ground.phase }, { on := 58, ground := Ground.phase }, { on := 59, ground := Ground.phase }, { on := 60, ground := Ground.phase }, { on := 61, ground := Ground.phase }, { on := 62, ground := Ground.phase }, { on := 63, ground := Ground.phase }, { on := 64, ground := Ground.phase }, { on := 65, ground := Ground.phase }], guard := none }) (v := ?vG66) rfl (by kernel_rfl) (by kernel_rfl) (by kernel_rfl) (fun _ _ _ h => h) (Or.inl ⟨by rfl, ?hyG66⟩) hHeld ?_
        case hyG66 => (intro w hSw; (try dsimp only at hSw); go_simp <;> with_reducible rfl)
        try simp only [Act.put, List.setIfInBounds_toArray, List.set_cons_zero, List.set_cons_succ]
        refine wpAnyH_done (by kernel_rfl) ?_ _
        go_wp2
        go_ret
        exact ⟨rfl, grow_on BY.out hHeld.1⟩

theorem walk (a : Option Addr) (len cap : Nat) (zs : List Int) (w : World) (h : IsRow .u8 w a len cap zs) :
    Calls Try.prog 5 #[.slice a len cap] w fun e w' => e = .returned (.bool true) ∧ Below w.heap.size w w' := by
  obtain ⟨hl, hb⟩ := bytes_of h
  exact core a len cap w hl hb
theorem own : ownKnob Try.prog.godebug = none := by kernel_rfl
theorem laidOut : laidOutB Try.prog = true := by kernel_rfl
set_option maxRecDepth 100000 in
theorem lifted (os : Os) (started : os.Started) (H : Type) (enc : TypeId × Value → H) :
    ReturnsInHanded {} Try.checked os 5 .any (Rows.fnMergesSpec.pre6 enc Try.prog Try.f5 Rows.fnMergesRow.domain false) (Rows.fnMergesSpec.post enc Try.prog Try.f5 false true false false) := by
  refine returnsInHanded_of_change (C := Try.checked) own started (by kernel_rfl) Try.func5
    (ChangeSpec.witness6 (enc := enc) (C := Try.checked) false ⟨#[], #[.slice none 0 0], []⟩ 8 (by kernel_rfl) (by kernel_rfl) (by kernel_rfl) (by kernel_rfl)) ?_
  intro W base args ds gs before hval0 hW hcnd _
  have hval : ∀ (j : Nat) t v, Try.f5.params[j]? = some t → args[j]? = some v → Value.okWide Try.prog W .any base t v := hval0
  have hW' := hW
  obtain ⟨p, q, hA0, hV, rfl, hfz, hnd⟩ := hW
  have hA : DataW.TrodAll enc Try.prog W 0 (fun _ => true) true Try.f5.params.toList args.toList ds p := hA0
  rw [Try.params5] at hA hval
  obtain ⟨v0, vs0, d0, ds0, p0, q0, hargs, rfl, rfl, h0, r0⟩ := trodAll_cons hA
  obtain ⟨rfl, rfl, rfl⟩ := trodAll_nil r0
  obtain rfl : args = #[v0] := by cases args; simp_all
  obtain ⟨rfl, rfl⟩ := trodVars_none hV
  obtain ⟨a0, len0, cap0, rfl⟩ := okWide_slice Try.underlying22 (hval 0 22 v0 rfl rfl)
  have k0 := h0
  have lt0 : ∀ x ∈ p0, x.block < W.heap.size := by obtain ⟨m, hm⟩ := k0; exact DataW.trod_lt m _ _ _ hm
  obtain ⟨z0, w0⟩ : ∃ zs, IsRow .u8 W a0 len0 cap0 zs := by
    obtain ⟨fuel, hf⟩ := h0
    rcases open_ints Try.underlying22 Try.underlying5 (by kernel_rfl) hf with ⟨hcs, _⟩ | ⟨x, l, c, zs, hcs, _, hl, hm, hz, _, hcell, hwz⟩
    · simp [Value.cells] at hcs
      obtain ⟨rfl, rfl, rfl⟩ := hcs
      exact ⟨[], .inl ⟨rfl, rfl, rfl, rfl⟩⟩
    · simp [Value.cells] at hcs
      obtain ⟨rfl, rfl, rfl⟩ := hcs
      exact ⟨zs, .inr ⟨_, rfl, hl, hm, by simpa using hz, hcell, hwz⟩⟩
  clear hA0 hval0
  refine (walk a0 len0 cap0 z0 W w0).mono fun e W' ⟨he, bel⟩ => ?_
  subst he
  exact ⟨_, rfl, _, _, _, [], _, [], hW', trodAll_mk1 (shut_bool Try.underlying4 _), (trodAll_cons_mk (Below.trod laidOut (by kernel_rfl) (of_decide_eq_true (by kernel_rfl)) k0 bel lt0) trodAll_mk0), rfl, bel.frame _, fun h => by cases h⟩

theorem over : Rows.fnMergesRow.holds Try.pinned (OpenSpec.ofChange Rows.fnMergesSpec) :=
  OpenClaim.holds_of_wide 5 Try.f5 rfl rfl rfl rfl rfl rfl rfl ⟨rfl, rfl, rfl, rfl, rfl⟩ rfl rfl rfl rfl rfl (by kernel_rfl) Try.func5 (by kernel_rfl)
    (of_decide_eq_true (by kernel_rfl)) (by unfold Func.isWrapper; first | (rw [if_pos (by decide +kernel)]; kernel_rfl) | (rw [if_neg (by decide +kernel)]; exact ⟨rfl, rfl⟩))
    (fun os started H enc _ => lifted os started H enc)

end Go.Proofs.Ytinegehejinmiaa.FnMerges
namespace Go.Proofs.Ytinegehejinmiaa
theorem fnMerges_holds : Rows.FnMergesSaid := FnMerges.over
#print axioms fnMerges_holds
end Go.Proofs.Ytinegehejinmiaa
