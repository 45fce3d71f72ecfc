/-
  PROVED: whatever the code, the law laws.FnChains returns true and leaves the code as it was: of the drawn chains and alarms what was put in a chain is in it, by its labels, merged with what was there, and all others are as they were; each function of chapter 6 answers as the specification has it. No condition.
-/
import Derived.Test.YtcopckbpflmmeaaRows
import Derived.WalkKit
import Derived.ProofKit
import Derived.OpenShut
import Derived.ShutString
import Derived.ChangeOld
import Derived.Below
import Derived.WalkLawsBesides
import Derived.WalkSpells
import Derived.Test.YtcopckbpflmmeaaQDrawE
import Derived.Test.YtcopckbpflmmeaaQDrawD
import Derived.Deep.RegionHeld3
set_option linter.unusedVariables false
namespace Go.Proofs.Ytcopckbpflmmeaa.FnChains
open Go.ChangeShapes Go.WideShapes Go.ChangeAt Go.RowKit
open Go.ChangeMaps (open_string shut_string)

open Labs LabS Draw LawB Over Blk Alms AlmS Rws ChnI ChnO ChnC ChnP ChnD ChnS ChnT ChnU ChnV DrawC DrawE
open LabT (Held held_reads)
open AlmM (implMerge_any startB)
open LabR (Own)

theorem own_reads {w w' : World} {M : Nat} {p : List Lab} (h : LabR.Own w w' M p) : Reads w' (some ⟨M, 0, none⟩) p := by
  obtain ⟨_, cs, hk, _, hh⟩ := h
  exact held_reads hk hh
theorem nthP_app_lt {P : List PAl} {x : PAl} {i : Nat} (h : i < P.length) : nthP (P ++ [x]) i = nthP P i := by
  unfold nthP; simp [List.getD, List.getElem?_append_left h]
theorem nthP_app_eq (P : List PAl) (x : PAl) : nthP (P ++ [x]) P.length = x := by
  unfold nthP; simp [List.getD]
theorem nthP_set_ne {P : List PAl} {x : PAl} {i k : Nat} (h : i ≠ k) : nthP (P.set k x) i = nthP P i := by
  unfold nthP; simp [List.getD, List.getElem?_set_ne (Ne.symm h)]
theorem nthP_set_eq {P : List PAl} {x : PAl} {k : Nat} (h : k < P.length) : nthP (P.set k x) k = x := by
  unfold nthP; simp [List.getD, List.getElem?_set_self h]
structure Miss (P : List PAl) (x : PAl) : Prop where
  at' : idxB P x.l = -1
  new : isNew P x.l = true
  len : (putL P x).length = P.length + 1
  idx : idxB (putL P x) x.l = (P.length : Int)
  old : ∀ j, j < P.length → nthP (putL P x) j = nthP P j
  own : nthP (putL P x) P.length = x
structure Hit (P : List PAl) (x : PAl) (k : Nat) : Prop where
  lt : k < P.length
  at' : idxB P x.l = (k : Int)
  new : isNew P x.l = false
  len : (putL P x).length = P.length
  idx : idxB (putL P x) x.l = (k : Int)
  old : ∀ j, j < P.length → j ≠ k → nthP (putL P x) j = nthP P j
  own : nthP (putL P x) k = mergeX (nthP P k) x
theorem look (P : List PAl) (x : PAl) : Miss P x ∨ ∃ k, Hit P x k := by
  rcases idx_cases P x.l with ⟨hq, hm⟩ | ⟨k, hq, hk, he, hj⟩
  · have e := (put_miss hm).1
    have hl : (putL P x).length = P.length + 1 := by rw [e]; simp
    have ho : ∀ j, j < P.length → nthP (putL P x) j = nthP P j := fun j hj => by rw [e]; exact nthP_app_lt hj
    have hx : nthP (putL P x) P.length = x := by rw [e]; exact nthP_app_eq P x
    exact .inl ⟨hq, (put_miss hm).2, hl, idx_hit (fun i hi => by rw [ho i hi]; exact hm i hi) (by rw [hx]) (by omega), ho, hx⟩
  · have e := (put_hit hj he hk).1
    have hl : (putL P x).length = P.length := by rw [e]; simp
    have ho : ∀ j, j < P.length → j ≠ k → nthP (putL P x) j = nthP P j := fun j _ hjk => by rw [e]; exact nthP_set_ne hjk
    have hx : nthP (putL P x) k = mergeX (nthP P k) x := by rw [e]; exact nthP_set_eq hk
    exact .inr ⟨k, hk, hq, (put_hit hj he hk).2, hl, idx_hit (fun i hi => by rw [ho i (by omega) (by omega)]; exact hj i hi) (by rw [hx]; rfl) (by omega), ho, hx⟩
theorem fines_left {P : List PAl} {now : Int} {k : Nat} (h : Fines P) : Fines (leftTo P now k) := fun y hy => h y (List.mem_of_mem_take (List.mem_filter.1 hy).1)
theorem fines_gone {P : List PAl} {now : Int} {k : Nat} (h : Fines P) : Fines (goneTo P now k) := fun y hy => h y (List.mem_of_mem_take (List.mem_filter.1 hy).1)
theorem finesP {P : List PAl} (h : Fines P) : LenP P := len_m h.lens
theorem fine_max {x : PAl} (h : Fine x) : x.l.length ≤ maxLen := by have := h.2; unfold maxLen; omega
theorem implPutR (f : Int) (M cap : Nat) (P : List PAl) (g cap' : Nat) (x : PAl) (w : World) (hP : DCh w M P) (hx : DAl w g x) :
    Calls Try.prog 8 #[.agg #[.int .i64 f, .slice (some ⟨M, 0, none⟩) P.length cap], .agg #[.slice (some ⟨g, 0, none⟩) x.l.length cap', .int .i64 x.s, .int .i64 x.e, .string x.n]] w fun e w' => (∃ M c, e = .returned (.tuple #[.agg #[.int .i64 f, .slice (some ⟨M, 0, none⟩) (putL P x).length c], .bool (isNew P x.l)]) ∧ RdN w' (some ⟨M, 0, none⟩) (putL P x)) ∧ Below w.heap.size w w' :=
  (implPut_any f _ cap P g 0 cap' x w hP.1.rd hx.1 (by have := hP.2.2; omega) hP.2.1.lens (by have := hx.2.2; omega)).mono fun e w' ⟨⟨M, c, rs, he, hab, hp⟩, hb⟩ => ⟨⟨M, c, by rw [he, ← hp, pals_len], by rw [← hp]; exact hab.rd⟩, hb⟩
theorem specPutR (f : Int) (M cap : Nat) (P : List PAl) (g cap' : Nat) (x : PAl) (w : World) (hP : DCh w M P) (hx : DAl w g x) :
    Calls Try.prog 9 #[.agg #[.int .i64 f, .slice (some ⟨M, 0, none⟩) P.length cap], .agg #[.slice (some ⟨g, 0, none⟩) x.l.length cap', .int .i64 x.s, .int .i64 x.e, .string x.n]] w fun e w' => (∃ M c, e = .returned (.tuple #[.agg #[.int .i64 f, .slice (some ⟨M, 0, none⟩) (putL P x).length c], .bool (isNew P x.l)]) ∧ RdN w' (some ⟨M, 0, none⟩) (putL P x)) ∧ Below w.heap.size w w' :=
  (specPut_any f _ cap P g 0 cap' x w hP.1 hx.1 (by have := hP.2.2; omega) hP.2.1.lens (by have := hx.2.2; omega)).mono fun e w' ⟨⟨M, c, rs, he, hab, hp⟩, hb⟩ => ⟨⟨M, c, by rw [he, ← hp, pals_len], by rw [← hp]; exact hab.rd⟩, hb⟩
theorem implDropR (f : Int) (M cap : Nat) (P : List PAl) (now : Int) (w : World) (hP : DCh w M P) :
    Calls Try.prog 13 #[.agg #[.int .i64 f, .slice (some ⟨M, 0, none⟩) P.length cap], .int .i64 now] w fun e w' => (∃ M1 c1 M2 c2, e = .returned (.tuple #[.agg #[.int .i64 f, .slice (some ⟨M1, 0, none⟩) (leftTo P now P.length).length c1], .slice (some ⟨M2, 0, none⟩) (goneTo P now P.length).length c2]) ∧ RdN w' (some ⟨M1, 0, none⟩) (leftTo P now P.length) ∧ RdN w' (some ⟨M2, 0, none⟩) (goneTo P now P.length)) ∧ Below w.heap.size w w' :=
  (implDrop_any f _ cap P now w hP.1.rd (by have := hP.2.2; omega) hP.2.1.lens).mono fun e w' ⟨⟨M1, c1, rs1, M2, c2, rs2, he, ht, h1, h2⟩, hb⟩ => ⟨⟨M1, c1, M2, c2, by rw [he, ← h1, ← h2, pals_len, pals_len], by rw [← h1]; exact ht.a.rd, by rw [← h2]; exact ht.b.rd⟩, hb⟩
theorem specDropR (f : Int) (M cap : Nat) (P : List PAl) (now : Int) (w : World) (hP : DCh w M P) :
    Calls Try.prog 14 #[.agg #[.int .i64 f, .slice (some ⟨M, 0, none⟩) P.length cap], .int .i64 now] w fun e w' => (∃ M1 c1 M2 c2, e = .returned (.tuple #[.agg #[.int .i64 f, .slice (some ⟨M1, 0, none⟩) (leftTo P now P.length).length c1], .slice (some ⟨M2, 0, none⟩) (goneTo P now P.length).length c2]) ∧ RdN w' (some ⟨M1, 0, none⟩) (leftTo P now P.length) ∧ RdN w' (some ⟨M2, 0, none⟩) (goneTo P now P.length)) ∧ Below w.heap.size w w' :=
  (specDrop_any f _ cap P now w hP.1 (by have := hP.2.2; omega) hP.2.1.lens).mono fun e w' ⟨⟨M1, c1, rs1, M2, c2, rs2, he, ht, h1, h2⟩, hb⟩ => ⟨⟨M1, c1, M2, c2, by rw [he, ← h1, ← h2, pals_len, pals_len], by rw [← h1]; exact ht.a.rd, by rw [← h2]; exact ht.b.rd⟩, hb⟩

set_option maxRecDepth 100000 in
set_option maxHeartbeats 40000000 in
theorem core (a : Option Addr) (len cap : Nat) (w : World) (hl : len ≤ maxLen) (hb : Bytes w a len w.heap.size) :
    Calls Try.prog 3 #[.slice a len cap] w fun e w' => e = .returned (.bool true) ∧ Below w.heap.size w w' := by
  have HB : Hid (Bytes w a len w.heap.size) := hb
  have HL : Hid (len ≤ maxLen) := hl
  clear hb hl
  by_cases hbig : (1048576 : Int) < (len : Int)
  · have HC : Hid (Calls Try.prog 6 #[.slice a len cap] w fun e w' => e = .returned (.bool true) ∧ w' = w) := (big_any a len cap w HL.out).mono fun e w' h => ⟨h.1.trans (retB (decide_eq_true hbig)), h.2⟩
    go_enter Try.func3, Try.ntmps3
    go_wp2_with fail
    refine HC.out.mono ?_
    rintro e w1 ⟨rfl, rfl⟩
    go_wp2
    go_ret
    exact ⟨rfl, Below.refl _ _⟩
  have HC : Hid (Calls Try.prog 6 #[.slice a len cap] w fun e w' => e = .returned (.bool false) ∧ w' = w) := (big_any a len cap w HL.out).mono fun e w' h => ⟨h.1.trans (retB (decide_eq_false hbig)), h.2⟩
  go_enter Try.func3, Try.ntmps3
  go_wp2_with fail
  refine HC.out.mono ?_
  rintro e wq ⟨rfl, hw⟩
  obtain rfl := hw.symm
  clear HC hw
  have B_z0 : Hid (Below w.heap.size w w) := Below.refl _ _
  go_upto_region 3 with fail
  go_wp2_with fail
  refine (drawPut_any a len cap _ HL.out HB.out).mono ?_
  rintro e w1 ⟨⟨fc, Mc, cc, P, ga, ca, x, rfl, hP, hx⟩, hb⟩
  have B_w1 : Hid (Below w.heap.size w w1) := hb
  have DP_w1 : Hid (DCh w1 Mc P) := hP
  have DX_w1 : Hid (DAl w1 ga x) := hx
  have FP : Hid (Fines P ∧ P.length ≤ 5 ∧ Fine x) := ⟨hP.2.1, hP.2.2, hx.2⟩
  clear hP hx hb B_z0
  go_upto_region 4 with fail
  generalize hz : (w1.alloc (.cells #[.int .i64 fc, .slice (some ⟨Mc, 0, none⟩) P.length cc] 26)).alloc (.cells #[.slice (some ⟨ga, 0, none⟩) x.l.length ca, .int .i64 x.s, .int .i64 x.e, .string x.n] 29) = z1
  have hbz : Below w1.heap.size w1 z1 := by rw [← hz]; exact Go.Joins.below_alloc2 w1 _ _
  have bC_z1 : Hid (Blk z1 w1.heap.size #[.int .i64 fc, .slice (some ⟨Mc, 0, none⟩) P.length cc] 26) := by rw [← hz]; exact (Blk.new _ _ _).alloc _
  have bA_z1 : Hid (Blk z1 (w1.heap.size + 1) #[.slice (some ⟨ga, 0, none⟩) x.l.length ca, .int .i64 x.s, .int .i64 x.e, .string x.n] 29) := by rw [← hz]; exact Blk.new_at (by simp)
  clear hz
  have B_z1 : Hid (Below w.heap.size w z1) := grow_on B_w1.out hbz
  have DP_z1 : Hid (DCh z1 Mc P) := DP_w1.out.below hbz
  have DX_z1 : Hid (DAl z1 ga x) := DX_w1.out.below hbz
  clear B_w1 DP_w1 DX_w1
  clear hbz
  have cbC0 : z1.cell? ⟨w1.heap.size, 0, none⟩ = some (.int .i64 fc) := bC_z1.out.cell 0
  have cbC1 : z1.cell? ⟨w1.heap.size, 1, none⟩ = some (.slice (some ⟨Mc, 0, none⟩) P.length cc) := bC_z1.out.cell 1
  have cbA0 : z1.cell? ⟨(w1.heap.size + 1), 0, none⟩ = some (.slice (some ⟨ga, 0, none⟩) x.l.length ca) := bA_z1.out.cell 0
  have cbA1 : z1.cell? ⟨(w1.heap.size + 1), 1, none⟩ = some (.int .i64 x.s) := bA_z1.out.cell 1
  have cbA2 : z1.cell? ⟨(w1.heap.size + 1), 2, none⟩ = some (.int .i64 x.e) := bA_z1.out.cell 2
  have cbA3 : z1.cell? ⟨(w1.heap.size + 1), 3, none⟩ = some (.string x.n) := bA_z1.out.cell 3
  go_wp2_with fail
  refine (implPutR fc Mc cc P ga ca x _ DP_z1.out DX_z1.out).mono ?_
  rintro e w2 ⟨⟨Mx, cx, rfl, hr⟩, hb⟩
  clear cbC0 cbC1 cbA0 cbA1 cbA2 cbA3
  have NRX : Hid (RdN w2 (some ⟨Mx, 0, none⟩) (putL P x)) := hr
  have B_w2 : Hid (Below w.heap.size w w2) := grow_on B_z1.out hb
  have DP_w2 : Hid (DCh w2 Mc P) := DP_z1.out.below hb
  have DX_w2 : Hid (DAl w2 ga x) := DX_z1.out.below hb
  have bC_w2 : Hid (Blk w2 w1.heap.size #[.int .i64 fc, .slice (some ⟨Mc, 0, none⟩) P.length cc] 26) := bC_z1.out.grow hb
  have bA_w2 : Hid (Blk w2 (w1.heap.size + 1) #[.slice (some ⟨ga, 0, none⟩) x.l.length ca, .int .i64 x.s, .int .i64 x.e, .string x.n] 29) := bA_z1.out.grow hb
  clear B_z1 DP_z1 DX_z1 bC_z1 bA_z1
  have RX_w2 : Hid (RdN w2 (some ⟨Mx, 0, none⟩) (putL P x)) := NRX.out
  clear NRX
  clear hb
  go_upto_region 5 with fail
  generalize hz : w2.alloc (.cells #[.int .i64 fc, .slice (some ⟨Mx, 0, none⟩) (putL P x).length cx] 26) = z2
  have hbz : Below w2.heap.size w2 z2 := by rw [← hz]; exact Go.Joins.below_alloc1 w2 _
  have bX_z2 : Hid (Blk z2 w2.heap.size #[.int .i64 fc, .slice (some ⟨Mx, 0, none⟩) (putL P x).length cx] 26) := by rw [← hz]; exact (Blk.new _ _ _)
  clear hz
  have B_z2 : Hid (Below w.heap.size w z2) := grow_on B_w2.out hbz
  have DP_z2 : Hid (DCh z2 Mc P) := DP_w2.out.below hbz
  have DX_z2 : Hid (DAl z2 ga x) := DX_w2.out.below hbz
  have bC_z2 : Hid (Blk z2 w1.heap.size #[.int .i64 fc, .slice (some ⟨Mc, 0, none⟩) P.length cc] 26) := bC_w2.out.grow hbz
  have bA_z2 : Hid (Blk z2 (w1.heap.size + 1) #[.slice (some ⟨ga, 0, none⟩) x.l.length ca, .int .i64 x.s, .int .i64 x.e, .string x.n] 29) := bA_w2.out.grow hbz
  have RX_z2 : Hid (RdN z2 (some ⟨Mx, 0, none⟩) (putL P x)) := RX_w2.out.below hbz
  clear B_w2 DP_w2 DX_w2 bC_w2 bA_w2 RX_w2
  clear hbz
  have cbC0 : z2.cell? ⟨w1.heap.size, 0, none⟩ = some (.int .i64 fc) := bC_z2.out.cell 0
  have cbC1 : z2.cell? ⟨w1.heap.size, 1, none⟩ = some (.slice (some ⟨Mc, 0, none⟩) P.length cc) := bC_z2.out.cell 1
  have cbA0 : z2.cell? ⟨(w1.heap.size + 1), 0, none⟩ = some (.slice (some ⟨ga, 0, none⟩) x.l.length ca) := bA_z2.out.cell 0
  have cbA1 : z2.cell? ⟨(w1.heap.size + 1), 1, none⟩ = some (.int .i64 x.s) := bA_z2.out.cell 1
  have cbA2 : z2.cell? ⟨(w1.heap.size + 1), 2, none⟩ = some (.int .i64 x.e) := bA_z2.out.cell 2
  have cbA3 : z2.cell? ⟨(w1.heap.size + 1), 3, none⟩ = some (.string x.n) := bA_z2.out.cell 3
  go_wp2_with fail
  refine (specPutR fc Mc cc P ga ca x _ DP_z2.out DX_z2.out).mono ?_
  rintro e w3 ⟨⟨My, cy, rfl, hr⟩, hb⟩
  clear cbC0 cbC1 cbA0 cbA1 cbA2 cbA3
  have NRY : Hid (RdN w3 (some ⟨My, 0, none⟩) (putL P x)) := hr
  have B_w3 : Hid (Below w.heap.size w w3) := grow_on B_z2.out hb
  have DP_w3 : Hid (DCh w3 Mc P) := DP_z2.out.below hb
  have DX_w3 : Hid (DAl w3 ga x) := DX_z2.out.below hb
  have bC_w3 : Hid (Blk w3 w1.heap.size #[.int .i64 fc, .slice (some ⟨Mc, 0, none⟩) P.length cc] 26) := bC_z2.out.grow hb
  have bA_w3 : Hid (Blk w3 (w1.heap.size + 1) #[.slice (some ⟨ga, 0, none⟩) x.l.length ca, .int .i64 x.s, .int .i64 x.e, .string x.n] 29) := bA_z2.out.grow hb
  have RX_w3 : Hid (RdN w3 (some ⟨Mx, 0, none⟩) (putL P x)) := RX_z2.out.below hb
  have bX_w3 : Hid (Blk w3 w2.heap.size #[.int .i64 fc, .slice (some ⟨Mx, 0, none⟩) (putL P x).length cx] 26) := bX_z2.out.grow hb
  clear B_z2 DP_z2 DX_z2 bC_z2 bA_z2 RX_z2 bX_z2
  have RY_w3 : Hid (RdN w3 (some ⟨My, 0, none⟩) (putL P x)) := NRY.out
  clear NRY
  clear hb
  go_upto_region 6 with fail
  generalize hz : w3.alloc (.cells #[.int .i64 fc, .slice (some ⟨My, 0, none⟩) (putL P x).length cy] 26) = z3
  have hbz : Below w3.heap.size w3 z3 := by rw [← hz]; exact Go.Joins.below_alloc1 w3 _
  have bY_z3 : Hid (Blk z3 w3.heap.size #[.int .i64 fc, .slice (some ⟨My, 0, none⟩) (putL P x).length cy] 26) := by rw [← hz]; exact (Blk.new _ _ _)
  clear hz
  have B_z3 : Hid (Below w.heap.size w z3) := grow_on B_w3.out hbz
  have DP_z3 : Hid (DCh z3 Mc P) := DP_w3.out.below hbz
  have DX_z3 : Hid (DAl z3 ga x) := DX_w3.out.below hbz
  have bC_z3 : Hid (Blk z3 w1.heap.size #[.int .i64 fc, .slice (some ⟨Mc, 0, none⟩) P.length cc] 26) := bC_w3.out.grow hbz
  have bA_z3 : Hid (Blk z3 (w1.heap.size + 1) #[.slice (some ⟨ga, 0, none⟩) x.l.length ca, .int .i64 x.s, .int .i64 x.e, .string x.n] 29) := bA_w3.out.grow hbz
  have RX_z3 : Hid (RdN z3 (some ⟨Mx, 0, none⟩) (putL P x)) := RX_w3.out.below hbz
  have bX_z3 : Hid (Blk z3 w2.heap.size #[.int .i64 fc, .slice (some ⟨Mx, 0, none⟩) (putL P x).length cx] 26) := bX_w3.out.grow hbz
  have RY_z3 : Hid (RdN z3 (some ⟨My, 0, none⟩) (putL P x)) := RY_w3.out.below hbz
  clear B_w3 DP_w3 DX_w3 bC_w3 bA_w3 RX_w3 bX_w3 RY_w3
  clear hbz
  go_wp2_with fail
  refine (drawChainOk_any a len cap _ HL.out (bytes_up HB.out B_z3.out)).mono ?_
  rintro e w4 ⟨⟨fo, Mo, co, Po, rfl, hr⟩, hb⟩
  have NDO : Hid (DCh w4 Mo Po) := hr
  have B_w4 : Hid (Below w.heap.size w w4) := grow_on B_z3.out hb
  have DP_w4 : Hid (DCh w4 Mc P) := DP_z3.out.below hb
  have DX_w4 : Hid (DAl w4 ga x) := DX_z3.out.below hb
  have bC_w4 : Hid (Blk w4 w1.heap.size #[.int .i64 fc, .slice (some ⟨Mc, 0, none⟩) P.length cc] 26) := bC_z3.out.grow hb
  have bA_w4 : Hid (Blk w4 (w1.heap.size + 1) #[.slice (some ⟨ga, 0, none⟩) x.l.length ca, .int .i64 x.s, .int .i64 x.e, .string x.n] 29) := bA_z3.out.grow hb
  have RX_w4 : Hid (RdN w4 (some ⟨Mx, 0, none⟩) (putL P x)) := RX_z3.out.below hb
  have bX_w4 : Hid (Blk w4 w2.heap.size #[.int .i64 fc, .slice (some ⟨Mx, 0, none⟩) (putL P x).length cx] 26) := bX_z3.out.grow hb
  have RY_w4 : Hid (RdN w4 (some ⟨My, 0, none⟩) (putL P x)) := RY_z3.out.below hb
  have bY_w4 : Hid (Blk w4 w3.heap.size #[.int .i64 fc, .slice (some ⟨My, 0, none⟩) (putL P x).length cy] 26) := bY_z3.out.grow hb
  clear B_z3 DP_z3 DX_z3 bC_z3 bA_z3 RX_z3 bX_z3 RY_z3 bY_z3
  have DO_w4 : Hid (DCh w4 Mo Po) := NDO.out
  clear NDO
  clear hb
  go_upto_region 7 with fail
  generalize hz : w4.alloc (.cells #[.int .i64 fo, .slice (some ⟨Mo, 0, none⟩) Po.length co] 26) = z4
  have hbz : Below w4.heap.size w4 z4 := by rw [← hz]; exact Go.Joins.below_alloc1 w4 _
  have bO_z4 : Hid (Blk z4 w4.heap.size #[.int .i64 fo, .slice (some ⟨Mo, 0, none⟩) Po.length co] 26) := by rw [← hz]; exact (Blk.new _ _ _)
  clear hz
  have B_z4 : Hid (Below w.heap.size w z4) := grow_on B_w4.out hbz
  have DP_z4 : Hid (DCh z4 Mc P) := DP_w4.out.below hbz
  have DX_z4 : Hid (DAl z4 ga x) := DX_w4.out.below hbz
  have bC_z4 : Hid (Blk z4 w1.heap.size #[.int .i64 fc, .slice (some ⟨Mc, 0, none⟩) P.length cc] 26) := bC_w4.out.grow hbz
  have bA_z4 : Hid (Blk z4 (w1.heap.size + 1) #[.slice (some ⟨ga, 0, none⟩) x.l.length ca, .int .i64 x.s, .int .i64 x.e, .string x.n] 29) := bA_w4.out.grow hbz
  have RX_z4 : Hid (RdN z4 (some ⟨Mx, 0, none⟩) (putL P x)) := RX_w4.out.below hbz
  have bX_z4 : Hid (Blk z4 w2.heap.size #[.int .i64 fc, .slice (some ⟨Mx, 0, none⟩) (putL P x).length cx] 26) := bX_w4.out.grow hbz
  have RY_z4 : Hid (RdN z4 (some ⟨My, 0, none⟩) (putL P x)) := RY_w4.out.below hbz
  have bY_z4 : Hid (Blk z4 w3.heap.size #[.int .i64 fc, .slice (some ⟨My, 0, none⟩) (putL P x).length cy] 26) := bY_w4.out.grow hbz
  have DO_z4 : Hid (DCh z4 Mo Po) := DO_w4.out.below hbz
  clear B_w4 DP_w4 DX_w4 bC_w4 bA_w4 RX_w4 bX_w4 RY_w4 bY_w4 DO_w4
  clear hbz
  go_wp2_with fail
  refine (drawSame_any a len cap _ HL.out (bytes_up HB.out B_z4.out)).mono ?_
  rintro e w5 ⟨⟨fu, Mu, cu, Pu, fv, Mv, cv, Pv, rfl, hr, hr'⟩, hb⟩
  have NDU : Hid (DCh w5 Mu Pu) := hr
  have NDV : Hid (DCh w5 Mv Pv) := hr'
  have B_w5 : Hid (Below w.heap.size w w5) := grow_on B_z4.out hb
  have DP_w5 : Hid (DCh w5 Mc P) := DP_z4.out.below hb
  have DX_w5 : Hid (DAl w5 ga x) := DX_z4.out.below hb
  have bC_w5 : Hid (Blk w5 w1.heap.size #[.int .i64 fc, .slice (some ⟨Mc, 0, none⟩) P.length cc] 26) := bC_z4.out.grow hb
  have bA_w5 : Hid (Blk w5 (w1.heap.size + 1) #[.slice (some ⟨ga, 0, none⟩) x.l.length ca, .int .i64 x.s, .int .i64 x.e, .string x.n] 29) := bA_z4.out.grow hb
  have RX_w5 : Hid (RdN w5 (some ⟨Mx, 0, none⟩) (putL P x)) := RX_z4.out.below hb
  have bX_w5 : Hid (Blk w5 w2.heap.size #[.int .i64 fc, .slice (some ⟨Mx, 0, none⟩) (putL P x).length cx] 26) := bX_z4.out.grow hb
  have RY_w5 : Hid (RdN w5 (some ⟨My, 0, none⟩) (putL P x)) := RY_z4.out.below hb
  have bY_w5 : Hid (Blk w5 w3.heap.size #[.int .i64 fc, .slice (some ⟨My, 0, none⟩) (putL P x).length cy] 26) := bY_z4.out.grow hb
  have DO_w5 : Hid (DCh w5 Mo Po) := DO_z4.out.below hb
  have bO_w5 : Hid (Blk w5 w4.heap.size #[.int .i64 fo, .slice (some ⟨Mo, 0, none⟩) Po.length co] 26) := bO_z4.out.grow hb
  clear B_z4 DP_z4 DX_z4 bC_z4 bA_z4 RX_z4 bX_z4 RY_z4 bY_z4 DO_z4 bO_z4
  have DU_w5 : Hid (DCh w5 Mu Pu) := NDU.out
  clear NDU
  have DV_w5 : Hid (DCh w5 Mv Pv) := NDV.out
  clear NDV
  clear hb
  go_upto_region 8 with fail
  generalize hz : (w5.alloc (.cells #[.int .i64 fu, .slice (some ⟨Mu, 0, none⟩) Pu.length cu] 26)).alloc (.cells #[.int .i64 fv, .slice (some ⟨Mv, 0, none⟩) Pv.length cv] 26) = z5
  have hbz : Below w5.heap.size w5 z5 := by rw [← hz]; exact Go.Joins.below_alloc2 w5 _ _
  have bU_z5 : Hid (Blk z5 w5.heap.size #[.int .i64 fu, .slice (some ⟨Mu, 0, none⟩) Pu.length cu] 26) := by rw [← hz]; exact (Blk.new _ _ _).alloc _
  have bV_z5 : Hid (Blk z5 (w5.heap.size + 1) #[.int .i64 fv, .slice (some ⟨Mv, 0, none⟩) Pv.length cv] 26) := by rw [← hz]; exact Blk.new_at (by simp)
  clear hz
  have B_z5 : Hid (Below w.heap.size w z5) := grow_on B_w5.out hbz
  have DP_z5 : Hid (DCh z5 Mc P) := DP_w5.out.below hbz
  have DX_z5 : Hid (DAl z5 ga x) := DX_w5.out.below hbz
  have bC_z5 : Hid (Blk z5 w1.heap.size #[.int .i64 fc, .slice (some ⟨Mc, 0, none⟩) P.length cc] 26) := bC_w5.out.grow hbz
  have bA_z5 : Hid (Blk z5 (w1.heap.size + 1) #[.slice (some ⟨ga, 0, none⟩) x.l.length ca, .int .i64 x.s, .int .i64 x.e, .string x.n] 29) := bA_w5.out.grow hbz
  have RX_z5 : Hid (RdN z5 (some ⟨Mx, 0, none⟩) (putL P x)) := RX_w5.out.below hbz
  have bX_z5 : Hid (Blk z5 w2.heap.size #[.int .i64 fc, .slice (some ⟨Mx, 0, none⟩) (putL P x).length cx] 26) := bX_w5.out.grow hbz
  have RY_z5 : Hid (RdN z5 (some ⟨My, 0, none⟩) (putL P x)) := RY_w5.out.below hbz
  have bY_z5 : Hid (Blk z5 w3.heap.size #[.int .i64 fc, .slice (some ⟨My, 0, none⟩) (putL P x).length cy] 26) := bY_w5.out.grow hbz
  have DO_z5 : Hid (DCh z5 Mo Po) := DO_w5.out.below hbz
  have bO_z5 : Hid (Blk z5 w4.heap.size #[.int .i64 fo, .slice (some ⟨Mo, 0, none⟩) Po.length co] 26) := bO_w5.out.grow hbz
  have DU_z5 : Hid (DCh z5 Mu Pu) := DU_w5.out.below hbz
  have DV_z5 : Hid (DCh z5 Mv Pv) := DV_w5.out.below hbz
  clear B_w5 DP_w5 DX_w5 bC_w5 bA_w5 RX_w5 bX_w5 RY_w5 bY_w5 DO_w5 bO_w5 DU_w5 DV_w5
  clear hbz
  go_wp2_with fail
  refine (drawDrop_any a len cap _ HL.out (bytes_up HB.out B_z5.out)).mono ?_
  rintro e w6 ⟨⟨fd, Md, cd, Pd, now, rfl, hr⟩, hb⟩
  have NDD : Hid (DCh w6 Md Pd) := hr
  have B_w6 : Hid (Below w.heap.size w w6) := grow_on B_z5.out hb
  have DP_w6 : Hid (DCh w6 Mc P) := DP_z5.out.below hb
  have DX_w6 : Hid (DAl w6 ga x) := DX_z5.out.below hb
  have bC_w6 : Hid (Blk w6 w1.heap.size #[.int .i64 fc, .slice (some ⟨Mc, 0, none⟩) P.length cc] 26) := bC_z5.out.grow hb
  have bA_w6 : Hid (Blk w6 (w1.heap.size + 1) #[.slice (some ⟨ga, 0, none⟩) x.l.length ca, .int .i64 x.s, .int .i64 x.e, .string x.n] 29) := bA_z5.out.grow hb
  have RX_w6 : Hid (RdN w6 (some ⟨Mx, 0, none⟩) (putL P x)) := RX_z5.out.below hb
  have bX_w6 : Hid (Blk w6 w2.heap.size #[.int .i64 fc, .slice (some ⟨Mx, 0, none⟩) (putL P x).length cx] 26) := bX_z5.out.grow hb
  have RY_w6 : Hid (RdN w6 (some ⟨My, 0, none⟩) (putL P x)) := RY_z5.out.below hb
  have bY_w6 : Hid (Blk w6 w3.heap.size #[.int .i64 fc, .slice (some ⟨My, 0, none⟩) (putL P x).length cy] 26) := bY_z5.out.grow hb
  have DO_w6 : Hid (DCh w6 Mo Po) := DO_z5.out.below hb
  have bO_w6 : Hid (Blk w6 w4.heap.size #[.int .i64 fo, .slice (some ⟨Mo, 0, none⟩) Po.length co] 26) := bO_z5.out.grow hb
  have DU_w6 : Hid (DCh w6 Mu Pu) := DU_z5.out.below hb
  have DV_w6 : Hid (DCh w6 Mv Pv) := DV_z5.out.below hb
  have bU_w6 : Hid (Blk w6 w5.heap.size #[.int .i64 fu, .slice (some ⟨Mu, 0, none⟩) Pu.length cu] 26) := bU_z5.out.grow hb
  have bV_w6 : Hid (Blk w6 (w5.heap.size + 1) #[.int .i64 fv, .slice (some ⟨Mv, 0, none⟩) Pv.length cv] 26) := bV_z5.out.grow hb
  clear B_z5 DP_z5 DX_z5 bC_z5 bA_z5 RX_z5 bX_z5 RY_z5 bY_z5 DO_z5 bO_z5 DU_z5 DV_z5 bU_z5 bV_z5
  have DD_w6 : Hid (DCh w6 Md Pd) := NDD.out
  clear NDD
  clear hb
  go_upto_region 9 with fail
  generalize hz : w6.alloc (.cells #[.int .i64 fd, .slice (some ⟨Md, 0, none⟩) Pd.length cd] 26) = z6
  have hbz : Below w6.heap.size w6 z6 := by rw [← hz]; exact Go.Joins.below_alloc1 w6 _
  have bD_z6 : Hid (Blk z6 w6.heap.size #[.int .i64 fd, .slice (some ⟨Md, 0, none⟩) Pd.length cd] 26) := by rw [← hz]; exact (Blk.new _ _ _)
  clear hz
  have B_z6 : Hid (Below w.heap.size w z6) := grow_on B_w6.out hbz
  have DP_z6 : Hid (DCh z6 Mc P) := DP_w6.out.below hbz
  have DX_z6 : Hid (DAl z6 ga x) := DX_w6.out.below hbz
  have bC_z6 : Hid (Blk z6 w1.heap.size #[.int .i64 fc, .slice (some ⟨Mc, 0, none⟩) P.length cc] 26) := bC_w6.out.grow hbz
  have bA_z6 : Hid (Blk z6 (w1.heap.size + 1) #[.slice (some ⟨ga, 0, none⟩) x.l.length ca, .int .i64 x.s, .int .i64 x.e, .string x.n] 29) := bA_w6.out.grow hbz
  have RX_z6 : Hid (RdN z6 (some ⟨Mx, 0, none⟩) (putL P x)) := RX_w6.out.below hbz
  have bX_z6 : Hid (Blk z6 w2.heap.size #[.int .i64 fc, .slice (some ⟨Mx, 0, none⟩) (putL P x).length cx] 26) := bX_w6.out.grow hbz
  have RY_z6 : Hid (RdN z6 (some ⟨My, 0, none⟩) (putL P x)) := RY_w6.out.below hbz
  have bY_z6 : Hid (Blk z6 w3.heap.size #[.int .i64 fc, .slice (some ⟨My, 0, none⟩) (putL P x).length cy] 26) := bY_w6.out.grow hbz
  have DO_z6 : Hid (DCh z6 Mo Po) := DO_w6.out.below hbz
  have bO_z6 : Hid (Blk z6 w4.heap.size #[.int .i64 fo, .slice (some ⟨Mo, 0, none⟩) Po.length co] 26) := bO_w6.out.grow hbz
  have DU_z6 : Hid (DCh z6 Mu Pu) := DU_w6.out.below hbz
  have DV_z6 : Hid (DCh z6 Mv Pv) := DV_w6.out.below hbz
  have bU_z6 : Hid (Blk z6 w5.heap.size #[.int .i64 fu, .slice (some ⟨Mu, 0, none⟩) Pu.length cu] 26) := bU_w6.out.grow hbz
  have bV_z6 : Hid (Blk z6 (w5.heap.size + 1) #[.int .i64 fv, .slice (some ⟨Mv, 0, none⟩) Pv.length cv] 26) := bV_w6.out.grow hbz
  have DD_z6 : Hid (DCh z6 Md Pd) := DD_w6.out.below hbz
  clear B_w6 DP_w6 DX_w6 bC_w6 bA_w6 RX_w6 bX_w6 RY_w6 bY_w6 DO_w6 bO_w6 DU_w6 DV_w6 bU_w6 bV_w6 DD_w6
  clear hbz
  have cbD0 : z6.cell? ⟨w6.heap.size, 0, none⟩ = some (.int .i64 fd) := bD_z6.out.cell 0
  have cbD1 : z6.cell? ⟨w6.heap.size, 1, none⟩ = some (.slice (some ⟨Md, 0, none⟩) Pd.length cd) := bD_z6.out.cell 1
  go_wp2_with fail
  refine (implDropR fd Md cd Pd now _ DD_z6.out).mono ?_
  rintro e w7 ⟨⟨Me, ce, Mg, cg, rfl, hr, hr'⟩, hb⟩
  clear cbD0 cbD1
  have NRE : Hid (RdN w7 (some ⟨Me, 0, none⟩) (leftTo Pd now Pd.length)) := hr
  have NRG : Hid (RdN w7 (some ⟨Mg, 0, none⟩) (goneTo Pd now Pd.length)) := hr'
  have B_w7 : Hid (Below w.heap.size w w7) := grow_on B_z6.out hb
  have DP_w7 : Hid (DCh w7 Mc P) := DP_z6.out.below hb
  have DX_w7 : Hid (DAl w7 ga x) := DX_z6.out.below hb
  have bC_w7 : Hid (Blk w7 w1.heap.size #[.int .i64 fc, .slice (some ⟨Mc, 0, none⟩) P.length cc] 26) := bC_z6.out.grow hb
  have bA_w7 : Hid (Blk w7 (w1.heap.size + 1) #[.slice (some ⟨ga, 0, none⟩) x.l.length ca, .int .i64 x.s, .int .i64 x.e, .string x.n] 29) := bA_z6.out.grow hb
  have RX_w7 : Hid (RdN w7 (some ⟨Mx, 0, none⟩) (putL P x)) := RX_z6.out.below hb
  have bX_w7 : Hid (Blk w7 w2.heap.size #[.int .i64 fc, .slice (some ⟨Mx, 0, none⟩) (putL P x).length cx] 26) := bX_z6.out.grow hb
  have RY_w7 : Hid (RdN w7 (some ⟨My, 0, none⟩) (putL P x)) := RY_z6.out.below hb
  have bY_w7 : Hid (Blk w7 w3.heap.size #[.int .i64 fc, .slice (some ⟨My, 0, none⟩) (putL P x).length cy] 26) := bY_z6.out.grow hb
  have DO_w7 : Hid (DCh w7 Mo Po) := DO_z6.out.below hb
  have bO_w7 : Hid (Blk w7 w4.heap.size #[.int .i64 fo, .slice (some ⟨Mo, 0, none⟩) Po.length co] 26) := bO_z6.out.grow hb
  have DU_w7 : Hid (DCh w7 Mu Pu) := DU_z6.out.below hb
  have DV_w7 : Hid (DCh w7 Mv Pv) := DV_z6.out.below hb
  have bU_w7 : Hid (Blk w7 w5.heap.size #[.int .i64 fu, .slice (some ⟨Mu, 0, none⟩) Pu.length cu] 26) := bU_z6.out.grow hb
  have bV_w7 : Hid (Blk w7 (w5.heap.size + 1) #[.int .i64 fv, .slice (some ⟨Mv, 0, none⟩) Pv.length cv] 26) := bV_z6.out.grow hb
  have DD_w7 : Hid (DCh w7 Md Pd) := DD_z6.out.below hb
  have bD_w7 : Hid (Blk w7 w6.heap.size #[.int .i64 fd, .slice (some ⟨Md, 0, none⟩) Pd.length cd] 26) := bD_z6.out.grow hb
  clear B_z6 DP_z6 DX_z6 bC_z6 bA_z6 RX_z6 bX_z6 RY_z6 bY_z6 DO_z6 bO_z6 DU_z6 DV_z6 bU_z6 bV_z6 DD_z6 bD_z6
  have RE_w7 : Hid (RdN w7 (some ⟨Me, 0, none⟩) (leftTo Pd now Pd.length)) := NRE.out
  clear NRE
  have RG_w7 : Hid (RdN w7 (some ⟨Mg, 0, none⟩) (goneTo Pd now Pd.length)) := NRG.out
  clear NRG
  clear hb
  go_upto_region 10 with fail
  generalize hz : w7.alloc (.cells #[.int .i64 fd, .slice (some ⟨Me, 0, none⟩) (leftTo Pd now Pd.length).length ce] 26) = z7
  have hbz : Below w7.heap.size w7 z7 := by rw [← hz]; exact Go.Joins.below_alloc1 w7 _
  have bE_z7 : Hid (Blk z7 w7.heap.size #[.int .i64 fd, .slice (some ⟨Me, 0, none⟩) (leftTo Pd now Pd.length).length ce] 26) := by rw [← hz]; exact (Blk.new _ _ _)
  clear hz
  have B_z7 : Hid (Below w.heap.size w z7) := grow_on B_w7.out hbz
  have DP_z7 : Hid (DCh z7 Mc P) := DP_w7.out.below hbz
  have DX_z7 : Hid (DAl z7 ga x) := DX_w7.out.below hbz
  have bC_z7 : Hid (Blk z7 w1.heap.size #[.int .i64 fc, .slice (some ⟨Mc, 0, none⟩) P.length cc] 26) := bC_w7.out.grow hbz
  have bA_z7 : Hid (Blk z7 (w1.heap.size + 1) #[.slice (some ⟨ga, 0, none⟩) x.l.length ca, .int .i64 x.s, .int .i64 x.e, .string x.n] 29) := bA_w7.out.grow hbz
  have RX_z7 : Hid (RdN z7 (some ⟨Mx, 0, none⟩) (putL P x)) := RX_w7.out.below hbz
  have bX_z7 : Hid (Blk z7 w2.heap.size #[.int .i64 fc, .slice (some ⟨Mx, 0, none⟩) (putL P x).length cx] 26) := bX_w7.out.grow hbz
  have RY_z7 : Hid (RdN z7 (some ⟨My, 0, none⟩) (putL P x)) := RY_w7.out.below hbz
  have bY_z7 : Hid (Blk z7 w3.heap.size #[.int .i64 fc, .slice (some ⟨My, 0, none⟩) (putL P x).length cy] 26) := bY_w7.out.grow hbz
  have DO_z7 : Hid (DCh z7 Mo Po) := DO_w7.out.below hbz
  have bO_z7 : Hid (Blk z7 w4.heap.size #[.int .i64 fo, .slice (some ⟨Mo, 0, none⟩) Po.length co] 26) := bO_w7.out.grow hbz
  have DU_z7 : Hid (DCh z7 Mu Pu) := DU_w7.out.below hbz
  have DV_z7 : Hid (DCh z7 Mv Pv) := DV_w7.out.below hbz
  have bU_z7 : Hid (Blk z7 w5.heap.size #[.int .i64 fu, .slice (some ⟨Mu, 0, none⟩) Pu.length cu] 26) := bU_w7.out.grow hbz
  have bV_z7 : Hid (Blk z7 (w5.heap.size + 1) #[.int .i64 fv, .slice (some ⟨Mv, 0, none⟩) Pv.length cv] 26) := bV_w7.out.grow hbz
  have DD_z7 : Hid (DCh z7 Md Pd) := DD_w7.out.below hbz
  have bD_z7 : Hid (Blk z7 w6.heap.size #[.int .i64 fd, .slice (some ⟨Md, 0, none⟩) Pd.length cd] 26) := bD_w7.out.grow hbz
  have RE_z7 : Hid (RdN z7 (some ⟨Me, 0, none⟩) (leftTo Pd now Pd.length)) := RE_w7.out.below hbz
  have RG_z7 : Hid (RdN z7 (some ⟨Mg, 0, none⟩) (goneTo Pd now Pd.length)) := RG_w7.out.below hbz
  clear B_w7 DP_w7 DX_w7 bC_w7 bA_w7 RX_w7 bX_w7 RY_w7 bY_w7 DO_w7 bO_w7 DU_w7 DV_w7 bU_w7 bV_w7 DD_w7 bD_w7 RE_w7 RG_w7
  clear hbz
  have cbD0 : z7.cell? ⟨w6.heap.size, 0, none⟩ = some (.int .i64 fd) := bD_z7.out.cell 0
  have cbD1 : z7.cell? ⟨w6.heap.size, 1, none⟩ = some (.slice (some ⟨Md, 0, none⟩) Pd.length cd) := bD_z7.out.cell 1
  go_wp2_with fail
  refine (specDropR fd Md cd Pd now _ DD_z7.out).mono ?_
  rintro e w8 ⟨⟨Mf, cf, Mh, ch, rfl, hr, hr'⟩, hb⟩
  clear cbD0 cbD1
  have NRF : Hid (RdN w8 (some ⟨Mf, 0, none⟩) (leftTo Pd now Pd.length)) := hr
  have NRH : Hid (RdN w8 (some ⟨Mh, 0, none⟩) (goneTo Pd now Pd.length)) := hr'
  have B_w8 : Hid (Below w.heap.size w w8) := grow_on B_z7.out hb
  have DP_w8 : Hid (DCh w8 Mc P) := DP_z7.out.below hb
  have DX_w8 : Hid (DAl w8 ga x) := DX_z7.out.below hb
  have bC_w8 : Hid (Blk w8 w1.heap.size #[.int .i64 fc, .slice (some ⟨Mc, 0, none⟩) P.length cc] 26) := bC_z7.out.grow hb
  have bA_w8 : Hid (Blk w8 (w1.heap.size + 1) #[.slice (some ⟨ga, 0, none⟩) x.l.length ca, .int .i64 x.s, .int .i64 x.e, .string x.n] 29) := bA_z7.out.grow hb
  have RX_w8 : Hid (RdN w8 (some ⟨Mx, 0, none⟩) (putL P x)) := RX_z7.out.below hb
  have bX_w8 : Hid (Blk w8 w2.heap.size #[.int .i64 fc, .slice (some ⟨Mx, 0, none⟩) (putL P x).length cx] 26) := bX_z7.out.grow hb
  have RY_w8 : Hid (RdN w8 (some ⟨My, 0, none⟩) (putL P x)) := RY_z7.out.below hb
  have bY_w8 : Hid (Blk w8 w3.heap.size #[.int .i64 fc, .slice (some ⟨My, 0, none⟩) (putL P x).length cy] 26) := bY_z7.out.grow hb
  have DO_w8 : Hid (DCh w8 Mo Po) := DO_z7.out.below hb
  have bO_w8 : Hid (Blk w8 w4.heap.size #[.int .i64 fo, .slice (some ⟨Mo, 0, none⟩) Po.length co] 26) := bO_z7.out.grow hb
  have DU_w8 : Hid (DCh w8 Mu Pu) := DU_z7.out.below hb
  have DV_w8 : Hid (DCh w8 Mv Pv) := DV_z7.out.below hb
  have bU_w8 : Hid (Blk w8 w5.heap.size #[.int .i64 fu, .slice (some ⟨Mu, 0, none⟩) Pu.length cu] 26) := bU_z7.out.grow hb
  have bV_w8 : Hid (Blk w8 (w5.heap.size + 1) #[.int .i64 fv, .slice (some ⟨Mv, 0, none⟩) Pv.length cv] 26) := bV_z7.out.grow hb
  have DD_w8 : Hid (DCh w8 Md Pd) := DD_z7.out.below hb
  have bD_w8 : Hid (Blk w8 w6.heap.size #[.int .i64 fd, .slice (some ⟨Md, 0, none⟩) Pd.length cd] 26) := bD_z7.out.grow hb
  have RE_w8 : Hid (RdN w8 (some ⟨Me, 0, none⟩) (leftTo Pd now Pd.length)) := RE_z7.out.below hb
  have RG_w8 : Hid (RdN w8 (some ⟨Mg, 0, none⟩) (goneTo Pd now Pd.length)) := RG_z7.out.below hb
  have bE_w8 : Hid (Blk w8 w7.heap.size #[.int .i64 fd, .slice (some ⟨Me, 0, none⟩) (leftTo Pd now Pd.length).length ce] 26) := bE_z7.out.grow hb
  clear B_z7 DP_z7 DX_z7 bC_z7 bA_z7 RX_z7 bX_z7 RY_z7 bY_z7 DO_z7 bO_z7 DU_z7 DV_z7 bU_z7 bV_z7 DD_z7 bD_z7 RE_z7 RG_z7 bE_z7
  have RF_w8 : Hid (RdN w8 (some ⟨Mf, 0, none⟩) (leftTo Pd now Pd.length)) := NRF.out
  clear NRF
  have RH_w8 : Hid (RdN w8 (some ⟨Mh, 0, none⟩) (goneTo Pd now Pd.length)) := NRH.out
  clear NRH
  clear hb
  go_upto_region 11 with fail
  generalize hz : w8.alloc (.cells #[.int .i64 fd, .slice (some ⟨Mf, 0, none⟩) (leftTo Pd now Pd.length).length cf] 26) = z8
  have hbz : Below w8.heap.size w8 z8 := by rw [← hz]; exact Go.Joins.below_alloc1 w8 _
  have bF_z8 : Hid (Blk z8 w8.heap.size #[.int .i64 fd, .slice (some ⟨Mf, 0, none⟩) (leftTo Pd now Pd.length).length cf] 26) := by rw [← hz]; exact (Blk.new _ _ _)
  clear hz
  have B_z8 : Hid (Below w.heap.size w z8) := grow_on B_w8.out hbz
  have DP_z8 : Hid (DCh z8 Mc P) := DP_w8.out.below hbz
  have DX_z8 : Hid (DAl z8 ga x) := DX_w8.out.below hbz
  have bC_z8 : Hid (Blk z8 w1.heap.size #[.int .i64 fc, .slice (some ⟨Mc, 0, none⟩) P.length cc] 26) := bC_w8.out.grow hbz
  have bA_z8 : Hid (Blk z8 (w1.heap.size + 1) #[.slice (some ⟨ga, 0, none⟩) x.l.length ca, .int .i64 x.s, .int .i64 x.e, .string x.n] 29) := bA_w8.out.grow hbz
  have RX_z8 : Hid (RdN z8 (some ⟨Mx, 0, none⟩) (putL P x)) := RX_w8.out.below hbz
  have bX_z8 : Hid (Blk z8 w2.heap.size #[.int .i64 fc, .slice (some ⟨Mx, 0, none⟩) (putL P x).length cx] 26) := bX_w8.out.grow hbz
  have RY_z8 : Hid (RdN z8 (some ⟨My, 0, none⟩) (putL P x)) := RY_w8.out.below hbz
  have bY_z8 : Hid (Blk z8 w3.heap.size #[.int .i64 fc, .slice (some ⟨My, 0, none⟩) (putL P x).length cy] 26) := bY_w8.out.grow hbz
  have DO_z8 : Hid (DCh z8 Mo Po) := DO_w8.out.below hbz
  have bO_z8 : Hid (Blk z8 w4.heap.size #[.int .i64 fo, .slice (some ⟨Mo, 0, none⟩) Po.length co] 26) := bO_w8.out.grow hbz
  have DU_z8 : Hid (DCh z8 Mu Pu) := DU_w8.out.below hbz
  have DV_z8 : Hid (DCh z8 Mv Pv) := DV_w8.out.below hbz
  have bU_z8 : Hid (Blk z8 w5.heap.size #[.int .i64 fu, .slice (some ⟨Mu, 0, none⟩) Pu.length cu] 26) := bU_w8.out.grow hbz
  have bV_z8 : Hid (Blk z8 (w5.heap.size + 1) #[.int .i64 fv, .slice (some ⟨Mv, 0, none⟩) Pv.length cv] 26) := bV_w8.out.grow hbz
  have DD_z8 : Hid (DCh z8 Md Pd) := DD_w8.out.below hbz
  have bD_z8 : Hid (Blk z8 w6.heap.size #[.int .i64 fd, .slice (some ⟨Md, 0, none⟩) Pd.length cd] 26) := bD_w8.out.grow hbz
  have RE_z8 : Hid (RdN z8 (some ⟨Me, 0, none⟩) (leftTo Pd now Pd.length)) := RE_w8.out.below hbz
  have RG_z8 : Hid (RdN z8 (some ⟨Mg, 0, none⟩) (goneTo Pd now Pd.length)) := RG_w8.out.below hbz
  have bE_z8 : Hid (Blk z8 w7.heap.size #[.int .i64 fd, .slice (some ⟨Me, 0, none⟩) (leftTo Pd now Pd.length).length ce] 26) := bE_w8.out.grow hbz
  have RF_z8 : Hid (RdN z8 (some ⟨Mf, 0, none⟩) (leftTo Pd now Pd.length)) := RF_w8.out.below hbz
  have RH_z8 : Hid (RdN z8 (some ⟨Mh, 0, none⟩) (goneTo Pd now Pd.length)) := RH_w8.out.below hbz
  clear B_w8 DP_w8 DX_w8 bC_w8 bA_w8 RX_w8 bX_w8 RY_w8 bY_w8 DO_w8 bO_w8 DU_w8 DV_w8 bU_w8 bV_w8 DD_w8 bD_w8 RE_w8 RG_w8 bE_w8 RF_w8 RH_w8
  clear hbz
  go_wp2_with fail
  refine (drawIn_any a len cap _ HL.out (bytes_up HB.out B_z8.out)).mono ?_
  rintro e w9 ⟨⟨fi, Mi, ci, Pi, gl, cl, q, rfl, hr, hr', hq8⟩, hb⟩
  have NDI : Hid (DCh w9 Mi Pi) := hr
  have NRQ : Hid (Reads w9 (some ⟨gl, 0, none⟩) q) := hr'
  have B_w9 : Hid (Below w.heap.size w w9) := grow_on B_z8.out hb
  have DP_w9 : Hid (DCh w9 Mc P) := DP_z8.out.below hb
  have DX_w9 : Hid (DAl w9 ga x) := DX_z8.out.below hb
  have bC_w9 : Hid (Blk w9 w1.heap.size #[.int .i64 fc, .slice (some ⟨Mc, 0, none⟩) P.length cc] 26) := bC_z8.out.grow hb
  have bA_w9 : Hid (Blk w9 (w1.heap.size + 1) #[.slice (some ⟨ga, 0, none⟩) x.l.length ca, .int .i64 x.s, .int .i64 x.e, .string x.n] 29) := bA_z8.out.grow hb
  have RX_w9 : Hid (RdN w9 (some ⟨Mx, 0, none⟩) (putL P x)) := RX_z8.out.below hb
  have bX_w9 : Hid (Blk w9 w2.heap.size #[.int .i64 fc, .slice (some ⟨Mx, 0, none⟩) (putL P x).length cx] 26) := bX_z8.out.grow hb
  have RY_w9 : Hid (RdN w9 (some ⟨My, 0, none⟩) (putL P x)) := RY_z8.out.below hb
  have bY_w9 : Hid (Blk w9 w3.heap.size #[.int .i64 fc, .slice (some ⟨My, 0, none⟩) (putL P x).length cy] 26) := bY_z8.out.grow hb
  have DO_w9 : Hid (DCh w9 Mo Po) := DO_z8.out.below hb
  have bO_w9 : Hid (Blk w9 w4.heap.size #[.int .i64 fo, .slice (some ⟨Mo, 0, none⟩) Po.length co] 26) := bO_z8.out.grow hb
  have DU_w9 : Hid (DCh w9 Mu Pu) := DU_z8.out.below hb
  have DV_w9 : Hid (DCh w9 Mv Pv) := DV_z8.out.below hb
  have bU_w9 : Hid (Blk w9 w5.heap.size #[.int .i64 fu, .slice (some ⟨Mu, 0, none⟩) Pu.length cu] 26) := bU_z8.out.grow hb
  have bV_w9 : Hid (Blk w9 (w5.heap.size + 1) #[.int .i64 fv, .slice (some ⟨Mv, 0, none⟩) Pv.length cv] 26) := bV_z8.out.grow hb
  have DD_w9 : Hid (DCh w9 Md Pd) := DD_z8.out.below hb
  have bD_w9 : Hid (Blk w9 w6.heap.size #[.int .i64 fd, .slice (some ⟨Md, 0, none⟩) Pd.length cd] 26) := bD_z8.out.grow hb
  have RE_w9 : Hid (RdN w9 (some ⟨Me, 0, none⟩) (leftTo Pd now Pd.length)) := RE_z8.out.below hb
  have RG_w9 : Hid (RdN w9 (some ⟨Mg, 0, none⟩) (goneTo Pd now Pd.length)) := RG_z8.out.below hb
  have bE_w9 : Hid (Blk w9 w7.heap.size #[.int .i64 fd, .slice (some ⟨Me, 0, none⟩) (leftTo Pd now Pd.length).length ce] 26) := bE_z8.out.grow hb
  have RF_w9 : Hid (RdN w9 (some ⟨Mf, 0, none⟩) (leftTo Pd now Pd.length)) := RF_z8.out.below hb
  have RH_w9 : Hid (RdN w9 (some ⟨Mh, 0, none⟩) (goneTo Pd now Pd.length)) := RH_z8.out.below hb
  have bF_w9 : Hid (Blk w9 w8.heap.size #[.int .i64 fd, .slice (some ⟨Mf, 0, none⟩) (leftTo Pd now Pd.length).length cf] 26) := bF_z8.out.grow hb
  clear B_z8 DP_z8 DX_z8 bC_z8 bA_z8 RX_z8 bX_z8 RY_z8 bY_z8 DO_z8 bO_z8 DU_z8 DV_z8 bU_z8 bV_z8 DD_z8 bD_z8 RE_z8 RG_z8 bE_z8 RF_z8 RH_z8 bF_z8
  have DI_w9 : Hid (DCh w9 Mi Pi) := NDI.out
  clear NDI
  have RQ_w9 : Hid (Reads w9 (some ⟨gl, 0, none⟩) q) := NRQ.out
  clear NRQ
  clear hb
  go_upto_region 12 with fail
  generalize hz : w9.alloc (.cells #[.int .i64 fi, .slice (some ⟨Mi, 0, none⟩) Pi.length ci] 26) = z9
  have hbz : Below w9.heap.size w9 z9 := by rw [← hz]; exact Go.Joins.below_alloc1 w9 _
  have bI_z9 : Hid (Blk z9 w9.heap.size #[.int .i64 fi, .slice (some ⟨Mi, 0, none⟩) Pi.length ci] 26) := by rw [← hz]; exact (Blk.new _ _ _)
  clear hz
  have B_z9 : Hid (Below w.heap.size w z9) := grow_on B_w9.out hbz
  have DP_z9 : Hid (DCh z9 Mc P) := DP_w9.out.below hbz
  have DX_z9 : Hid (DAl z9 ga x) := DX_w9.out.below hbz
  have bC_z9 : Hid (Blk z9 w1.heap.size #[.int .i64 fc, .slice (some ⟨Mc, 0, none⟩) P.length cc] 26) := bC_w9.out.grow hbz
  have bA_z9 : Hid (Blk z9 (w1.heap.size + 1) #[.slice (some ⟨ga, 0, none⟩) x.l.length ca, .int .i64 x.s, .int .i64 x.e, .string x.n] 29) := bA_w9.out.grow hbz
  have RX_z9 : Hid (RdN z9 (some ⟨Mx, 0, none⟩) (putL P x)) := RX_w9.out.below hbz
  have bX_z9 : Hid (Blk z9 w2.heap.size #[.int .i64 fc, .slice (some ⟨Mx, 0, none⟩) (putL P x).length cx] 26) := bX_w9.out.grow hbz
  have RY_z9 : Hid (RdN z9 (some ⟨My, 0, none⟩) (putL P x)) := RY_w9.out.below hbz
  have bY_z9 : Hid (Blk z9 w3.heap.size #[.int .i64 fc, .slice (some ⟨My, 0, none⟩) (putL P x).length cy] 26) := bY_w9.out.grow hbz
  have DO_z9 : Hid (DCh z9 Mo Po) := DO_w9.out.below hbz
  have bO_z9 : Hid (Blk z9 w4.heap.size #[.int .i64 fo, .slice (some ⟨Mo, 0, none⟩) Po.length co] 26) := bO_w9.out.grow hbz
  have DU_z9 : Hid (DCh z9 Mu Pu) := DU_w9.out.below hbz
  have DV_z9 : Hid (DCh z9 Mv Pv) := DV_w9.out.below hbz
  have bU_z9 : Hid (Blk z9 w5.heap.size #[.int .i64 fu, .slice (some ⟨Mu, 0, none⟩) Pu.length cu] 26) := bU_w9.out.grow hbz
  have bV_z9 : Hid (Blk z9 (w5.heap.size + 1) #[.int .i64 fv, .slice (some ⟨Mv, 0, none⟩) Pv.length cv] 26) := bV_w9.out.grow hbz
  have DD_z9 : Hid (DCh z9 Md Pd) := DD_w9.out.below hbz
  have bD_z9 : Hid (Blk z9 w6.heap.size #[.int .i64 fd, .slice (some ⟨Md, 0, none⟩) Pd.length cd] 26) := bD_w9.out.grow hbz
  have RE_z9 : Hid (RdN z9 (some ⟨Me, 0, none⟩) (leftTo Pd now Pd.length)) := RE_w9.out.below hbz
  have RG_z9 : Hid (RdN z9 (some ⟨Mg, 0, none⟩) (goneTo Pd now Pd.length)) := RG_w9.out.below hbz
  have bE_z9 : Hid (Blk z9 w7.heap.size #[.int .i64 fd, .slice (some ⟨Me, 0, none⟩) (leftTo Pd now Pd.length).length ce] 26) := bE_w9.out.grow hbz
  have RF_z9 : Hid (RdN z9 (some ⟨Mf, 0, none⟩) (leftTo Pd now Pd.length)) := RF_w9.out.below hbz
  have RH_z9 : Hid (RdN z9 (some ⟨Mh, 0, none⟩) (goneTo Pd now Pd.length)) := RH_w9.out.below hbz
  have bF_z9 : Hid (Blk z9 w8.heap.size #[.int .i64 fd, .slice (some ⟨Mf, 0, none⟩) (leftTo Pd now Pd.length).length cf] 26) := bF_w9.out.grow hbz
  have DI_z9 : Hid (DCh z9 Mi Pi) := DI_w9.out.below hbz
  have RQ_z9 : Hid (Reads z9 (some ⟨gl, 0, none⟩) q) := RQ_w9.out.below hbz
  clear B_w9 DP_w9 DX_w9 bC_w9 bA_w9 RX_w9 bX_w9 RY_w9 bY_w9 DO_w9 bO_w9 DU_w9 DV_w9 bU_w9 bV_w9 DD_w9 bD_w9 RE_w9 RG_w9 bE_w9 RF_w9 RH_w9 bF_w9 DI_w9 RQ_w9
  clear hbz
  have hne := Grown.some z9
  have cbX0 : ∀ y : Grown z9, y.out.cell? ⟨w2.heap.size, 0, none⟩ = some (.int .i64 fc) := fun y => y.cell bX_z9.out.lt (bX_z9.out.cell 0)
  have cbX1 : ∀ y : Grown z9, y.out.cell? ⟨w2.heap.size, 1, none⟩ = some (.slice (some ⟨Mx, 0, none⟩) (putL P x).length cx) := fun y => y.cell bX_z9.out.lt (bX_z9.out.cell 1)
  have cbY0 : ∀ y : Grown z9, y.out.cell? ⟨w3.heap.size, 0, none⟩ = some (.int .i64 fc) := fun y => y.cell bY_z9.out.lt (bY_z9.out.cell 0)
  have cbY1 : ∀ y : Grown z9, y.out.cell? ⟨w3.heap.size, 1, none⟩ = some (.slice (some ⟨My, 0, none⟩) (putL P x).length cy) := fun y => y.cell bY_z9.out.lt (bY_z9.out.cell 1)
  have cbO0 : ∀ y : Grown z9, y.out.cell? ⟨w4.heap.size, 0, none⟩ = some (.int .i64 fo) := fun y => y.cell bO_z9.out.lt (bO_z9.out.cell 0)
  have cbO1 : ∀ y : Grown z9, y.out.cell? ⟨w4.heap.size, 1, none⟩ = some (.slice (some ⟨Mo, 0, none⟩) Po.length co) := fun y => y.cell bO_z9.out.lt (bO_z9.out.cell 1)
  have cbU0 : ∀ y : Grown z9, y.out.cell? ⟨w5.heap.size, 0, none⟩ = some (.int .i64 fu) := fun y => y.cell bU_z9.out.lt (bU_z9.out.cell 0)
  have cbU1 : ∀ y : Grown z9, y.out.cell? ⟨w5.heap.size, 1, none⟩ = some (.slice (some ⟨Mu, 0, none⟩) Pu.length cu) := fun y => y.cell bU_z9.out.lt (bU_z9.out.cell 1)
  have cbV0 : ∀ y : Grown z9, y.out.cell? ⟨(w5.heap.size + 1), 0, none⟩ = some (.int .i64 fv) := fun y => y.cell bV_z9.out.lt (bV_z9.out.cell 0)
  have cbV1 : ∀ y : Grown z9, y.out.cell? ⟨(w5.heap.size + 1), 1, none⟩ = some (.slice (some ⟨Mv, 0, none⟩) Pv.length cv) := fun y => y.cell bV_z9.out.lt (bV_z9.out.cell 1)
  have cbE0 : ∀ y : Grown z9, y.out.cell? ⟨w7.heap.size, 0, none⟩ = some (.int .i64 fd) := fun y => y.cell bE_z9.out.lt (bE_z9.out.cell 0)
  have cbE1 : ∀ y : Grown z9, y.out.cell? ⟨w7.heap.size, 1, none⟩ = some (.slice (some ⟨Me, 0, none⟩) (leftTo Pd now Pd.length).length ce) := fun y => y.cell bE_z9.out.lt (bE_z9.out.cell 1)
  have cbF0 : ∀ y : Grown z9, y.out.cell? ⟨w8.heap.size, 0, none⟩ = some (.int .i64 fd) := fun y => y.cell bF_z9.out.lt (bF_z9.out.cell 0)
  have cbF1 : ∀ y : Grown z9, y.out.cell? ⟨w8.heap.size, 1, none⟩ = some (.slice (some ⟨Mf, 0, none⟩) (leftTo Pd now Pd.length).length cf) := fun y => y.cell bF_z9.out.lt (bF_z9.out.cell 1)
  have cbI0 : ∀ y : Grown z9, y.out.cell? ⟨w9.heap.size, 0, none⟩ = some (.int .i64 fi) := fun y => y.cell bI_z9.out.lt (bI_z9.out.cell 0)
  have cbI1 : ∀ y : Grown z9, y.out.cell? ⟨w9.heap.size, 1, none⟩ = some (.slice (some ⟨Mi, 0, none⟩) Pi.length ci) := fun y => y.cell bI_z9.out.lt (bI_z9.out.cell 1)
  have FQ : Hid (Fines (putL P x) ∧ (putL P x).length ≤ 6) := ⟨fines_put FP.out.1 FP.out.2.2, by have := (ChnK.put_sum P x).2; have := FP.out.2.1; omega⟩
  have FL : Hid (Fines (leftTo Pd now Pd.length) ∧ Fines (goneTo Pd now Pd.length) ∧ (leftTo Pd now Pd.length).length + (goneTo Pd now Pd.length).length = Pd.length ∧ Pd.length ≤ 5) := ⟨fines_left DD_z9.out.2.1, fines_gone DD_z9.out.2.1, by rw [drop_len]; simp, DD_z9.out.2.2⟩
  have S1 : ∀ y : Grown z9, Hid (Calls Try.prog 16 #[.agg #[.int .i64 fc, .slice (some ⟨Mx, 0, none⟩) (putL P x).length cx], .agg #[.int .i64 fc, .slice (some ⟨My, 0, none⟩) (putL P x).length cy]] y.out fun e w' => e = .returned (.bool true) ∧ Below y.out.heap.size y.out w') := fun y => (implSameC_any fc fc _ _ _ _ (putL P x) (putL P x) _ (RX_z9.out.rd.below y.bel) (RY_z9.out.rd.below y.bel) (by have := FQ.out.2; omega) (by have := FQ.out.2; omega) (finesP FQ.out.1) (finesP FQ.out.1)).mono fun e w' h => ⟨h.1.trans (retB ((sameC_y rfl).trans (same_refl _))), h.2⟩
  have S2 : ∀ y : Grown z9, Hid (Calls Try.prog 16 #[.agg #[.int .i64 fd, .slice (some ⟨Me, 0, none⟩) (leftTo Pd now Pd.length).length ce], .agg #[.int .i64 fd, .slice (some ⟨Mf, 0, none⟩) (leftTo Pd now Pd.length).length cf]] y.out fun e w' => e = .returned (.bool true) ∧ Below y.out.heap.size y.out w') := fun y => (implSameC_any fd fd _ _ _ _ (leftTo Pd now Pd.length) (leftTo Pd now Pd.length) _ (RE_z9.out.rd.below y.bel) (RF_z9.out.rd.below y.bel) (by have := FL.out.2.2; omega) (by have := FL.out.2.2; omega) (finesP FL.out.1) (finesP FL.out.1)).mono fun e w' h => ⟨h.1.trans (retB ((sameC_y rfl).trans (same_refl _))), h.2⟩
  have S3 : ∀ y : Grown z9, Hid (Calls Try.prog 16 #[.agg #[.int .i64 fu, .slice (some ⟨Mu, 0, none⟩) Pu.length cu], .agg #[.int .i64 fv, .slice (some ⟨Mv, 0, none⟩) Pv.length cv]] y.out fun e w' => e = .returned (.bool (sameCB fu Pu fv Pv)) ∧ Below y.out.heap.size y.out w') := fun y => implSameC_any fu fv _ _ _ _ Pu Pv _ (DU_z9.out.1.rd.below y.bel) (DV_z9.out.1.rd.below y.bel) (by have := DU_z9.out.2.2; omega) (by have := DV_z9.out.2.2; omega) (finesP DU_z9.out.2.1) (finesP DV_z9.out.2.1)
  have S4 : ∀ y : Grown z9, Hid (Calls Try.prog 19 #[.agg #[.int .i64 fu, .slice (some ⟨Mu, 0, none⟩) Pu.length cu], .agg #[.int .i64 fv, .slice (some ⟨Mv, 0, none⟩) Pv.length cv]] y.out fun e w' => e = .returned (.bool (sameCB fu Pu fv Pv)) ∧ Below y.out.heap.size y.out w') := fun y => specSameC_any fu fv _ _ _ _ Pu Pv _ (DU_z9.out.1.rd.below y.bel) (DV_z9.out.1.rd.below y.bel) (by have := DU_z9.out.2.2; omega) (by have := DV_z9.out.2.2; omega) (finesP DU_z9.out.2.1) (finesP DV_z9.out.2.1)
  have O1 : ∀ y : Grown z9, Hid (Calls Try.prog 17 #[.agg #[.int .i64 fo, .slice (some ⟨Mo, 0, none⟩) Po.length co]] y.out fun e w' => e = .returned (.bool (chainB fo Po)) ∧ Below y.out.heap.size y.out w') := fun y => implChain_any fo _ _ Po _ (DO_z9.out.1.rd.below y.bel) (by have := DO_z9.out.2.2; omega) DO_z9.out.2.1.fits
  have O2 : ∀ y : Grown z9, Hid (Calls Try.prog 18 #[.agg #[.int .i64 fo, .slice (some ⟨Mo, 0, none⟩) Po.length co]] y.out fun e w' => e = .returned (.bool (chainB fo Po)) ∧ Below y.out.heap.size y.out w') := fun y => specChain_any fo _ _ Po _ (DO_z9.out.1.rd.below y.bel) (by have := DO_z9.out.2.2; omega) DO_z9.out.2.1.fits
  have I1 : ∀ y : Grown z9, Hid (Calls Try.prog 21 #[.agg #[.int .i64 fi, .slice (some ⟨Mi, 0, none⟩) Pi.length ci], .slice (some ⟨gl, 0, none⟩) q.length cl] y.out fun e w' => e = .returned (.int .i64 (idxB Pi q)) ∧ Below y.out.heap.size y.out w') := fun y => implIn_any fi _ _ _ _ Pi q _ (DI_z9.out.1.rd.below y.bel) (RQ_z9.out.below y.bel) (by have := DI_z9.out.2.2; omega) (finesP DI_z9.out.2.1) (by unfold maxLen; omega)
  have I2 : ∀ y : Grown z9, Hid (Calls Try.prog 22 #[.agg #[.int .i64 fi, .slice (some ⟨Mi, 0, none⟩) Pi.length ci], .slice (some ⟨gl, 0, none⟩) q.length cl] y.out fun e w' => e = .returned (.int .i64 (idxB Pi q)) ∧ Below y.out.heap.size y.out w') := fun y => specIn_any fi _ _ _ _ Pi q _ (DI_z9.out.1.rd.below y.bel) (RQ_z9.out.below y.bel) (by have := DI_z9.out.2.2; omega) (finesP DI_z9.out.2.1) (by unfold maxLen; omega)
  have G1 : ∀ y : Grown z9, Hid (Calls Try.prog 20 #[.slice (some ⟨Mg, 0, none⟩) (goneTo Pd now Pd.length).length cg, .slice (some ⟨Mh, 0, none⟩) (goneTo Pd now Pd.length).length ch] y.out fun e w' => e = .returned (.bool true) ∧ Below y.out.heap.size y.out w') := fun y => (sameList_any _ _ _ _ (goneTo Pd now Pd.length) (goneTo Pd now Pd.length) _ (RG_z9.out.rd.below y.bel) (RH_z9.out.rd.below y.bel) (by have := FL.out.2.2; omega) (by have := FL.out.2.2; omega) (finesP FL.out.2.1) (finesP FL.out.2.1)).mono fun e w' h => ⟨h.1.trans (retB (same_refl _)), h.2⟩
  have t1 : (isNew P x.l != isNew P x.l) = false := by simp
  have t2 : (chainB fo Po != chainB fo Po) = false := by simp
  have t3 : (sameCB fu Pu fv Pv != sameCB fu Pu fv Pv) = false := by simp
  have t4 : (idxB Pi q != idxB Pi q) = false := by simp
  refine wp_over (z := z9) (by kernel_rfl) (by kernel_rfl) (Below.refl _ _) ?_
  repeat (go_big_quiet_step (first | (go_at_call 16; (first | with_reducible exact call_over (S1 _).out | with_reducible exact call_over (S2 _).out | with_reducible exact call_over (S3 _).out)) | (go_at_call 19; (first | with_reducible exact call_over (S4 _).out)) | (go_at_call 17; (first | with_reducible exact call_over (O1 _).out)) | (go_at_call 18; (first | with_reducible exact call_over (O2 _).out)) | (go_at_call 21; (first | with_reducible exact call_over (I1 _).out)) | (go_at_call 22; (first | with_reducible exact call_over (I2 _).out)) | (go_at_call 20; (first | with_reducible exact call_over (G1 _).out))))
  refine wpQuiet_nil ?_
  intro zz hzz
  have hb := over_bel hzz
  clear hzz hne cbX0 cbX1 cbY0 cbY1 cbO0 cbO1 cbU0 cbU1 cbV0 cbV1 cbE0 cbE1 cbF0 cbF1 cbI0 cbI1 S1 S2 S3 S4 O1 O2 I1 I2 G1 t1 t2 t3 t4
  clear bY_z9
  clear bO_z9
  clear bU_z9
  clear bV_z9
  clear bF_z9
  clear bI_z9
  clear RY_z9
  clear RE_z9
  clear RG_z9
  clear RF_z9
  clear RH_z9
  clear DO_z9
  clear DU_z9
  clear DV_z9
  clear DD_z9
  clear DI_z9
  clear RQ_z9
  have B_zz : Hid (Below w.heap.size w zz) := grow_on B_z9.out hb
  have DP_zz : Hid (DCh zz Mc P) := DP_z9.out.below hb
  have DX_zz : Hid (DAl zz ga x) := DX_z9.out.below hb
  have bC_zz : Hid (Blk zz w1.heap.size #[.int .i64 fc, .slice (some ⟨Mc, 0, none⟩) P.length cc] 26) := bC_z9.out.grow hb
  have bA_zz : Hid (Blk zz (w1.heap.size + 1) #[.slice (some ⟨ga, 0, none⟩) x.l.length ca, .int .i64 x.s, .int .i64 x.e, .string x.n] 29) := bA_z9.out.grow hb
  have RX_zz : Hid (RdN zz (some ⟨Mx, 0, none⟩) (putL P x)) := RX_z9.out.below hb
  have bX_zz : Hid (Blk zz w2.heap.size #[.int .i64 fc, .slice (some ⟨Mx, 0, none⟩) (putL P x).length cx] 26) := bX_z9.out.grow hb
  have bD_zz : Hid (Blk zz w6.heap.size #[.int .i64 fd, .slice (some ⟨Md, 0, none⟩) Pd.length cd] 26) := bD_z9.out.grow hb
  have bE_zz : Hid (Blk zz w7.heap.size #[.int .i64 fd, .slice (some ⟨Me, 0, none⟩) (leftTo Pd now Pd.length).length ce] 26) := bE_z9.out.grow hb
  clear B_z9 DP_z9 DX_z9 bC_z9 bA_z9 RX_z9 bX_z9 bD_z9 bE_z9
  clear hb
  rcases look P x with hm | ⟨k, hm⟩
  ·
    have HM : Hid (Miss P x) := hm
    clear hm
    have HI1 : Hid (Calls Try.prog 21 #[.agg #[.int .i64 fc, .slice (some ⟨Mc, 0, none⟩) P.length cc], .slice (some ⟨ga, 0, none⟩) x.l.length ca] zz fun e w' => e = .returned (.int .i64 (-1)) ∧ Below zz.heap.size zz w') := (implIn_any fc _ _ _ _ P x.l _ DP_zz.out.1.rd DX_zz.out.1 (by have := FP.out.2.1; omega) (finesP FP.out.1) (fine_max FP.out.2.2)).mono fun e w' h => ⟨h.1.trans (ChnI.retI HM.out.at'), h.2⟩
    go_upto_region 14 with fail
    have cbC0 : zz.cell? ⟨w1.heap.size, 0, none⟩ = some (.int .i64 fc) := bC_zz.out.cell 0
    have cbC1 : zz.cell? ⟨w1.heap.size, 1, none⟩ = some (.slice (some ⟨Mc, 0, none⟩) P.length cc) := bC_zz.out.cell 1
    have cbA0 : zz.cell? ⟨(w1.heap.size + 1), 0, none⟩ = some (.slice (some ⟨ga, 0, none⟩) x.l.length ca) := bA_zz.out.cell 0
    have cbA1 : zz.cell? ⟨(w1.heap.size + 1), 1, none⟩ = some (.int .i64 x.s) := bA_zz.out.cell 1
    have cbA2 : zz.cell? ⟨(w1.heap.size + 1), 2, none⟩ = some (.int .i64 x.e) := bA_zz.out.cell 2
    have cbA3 : zz.cell? ⟨(w1.heap.size + 1), 3, none⟩ = some (.string x.n) := bA_zz.out.cell 3
    go_wp2_with fail
    refine (HI1.out).mono ?_
    rintro e w10 ⟨rfl, hb⟩
    clear cbC0 cbC1 cbA0 cbA1 cbA2 cbA3
    have B_w10 : Hid (Below w.heap.size w w10) := grow_on B_zz.out hb
    have DP_w10 : Hid (DCh w10 Mc P) := DP_zz.out.below hb
    have DX_w10 : Hid (DAl w10 ga x) := DX_zz.out.below hb
    have bC_w10 : Hid (Blk w10 w1.heap.size #[.int .i64 fc, .slice (some ⟨Mc, 0, none⟩) P.length cc] 26) := bC_zz.out.grow hb
    have bA_w10 : Hid (Blk w10 (w1.heap.size + 1) #[.slice (some ⟨ga, 0, none⟩) x.l.length ca, .int .i64 x.s, .int .i64 x.e, .string x.n] 29) := bA_zz.out.grow hb
    have RX_w10 : Hid (RdN w10 (some ⟨Mx, 0, none⟩) (putL P x)) := RX_zz.out.below hb
    have bX_w10 : Hid (Blk w10 w2.heap.size #[.int .i64 fc, .slice (some ⟨Mx, 0, none⟩) (putL P x).length cx] 26) := bX_zz.out.grow hb
    have bD_w10 : Hid (Blk w10 w6.heap.size #[.int .i64 fd, .slice (some ⟨Md, 0, none⟩) Pd.length cd] 26) := bD_zz.out.grow hb
    have bE_w10 : Hid (Blk w10 w7.heap.size #[.int .i64 fd, .slice (some ⟨Me, 0, none⟩) (leftTo Pd now Pd.length).length ce] 26) := bE_zz.out.grow hb
    clear B_zz DP_zz DX_zz bC_zz bA_zz RX_zz bX_zz bD_zz bE_zz
    clear hb
    go_upto_region 15 with fail
    clear HI1
    have HI2 : Hid (Calls Try.prog 21 #[.agg #[.int .i64 fc, .slice (some ⟨Mx, 0, none⟩) (putL P x).length cx], .slice (some ⟨ga, 0, none⟩) x.l.length ca] w10 fun e w' => e = .returned (.int .i64 (P.length : Nat)) ∧ Below w10.heap.size w10 w') := (implIn_any fc _ _ _ _ (putL P x) x.l _ RX_w10.out.rd DX_w10.out.1 (by have := FQ.out.2; omega) (finesP FQ.out.1) (fine_max FP.out.2.2)).mono fun e w' h => ⟨h.1.trans (ChnI.retI HM.out.idx), h.2⟩
    have cbX0 : w10.cell? ⟨w2.heap.size, 0, none⟩ = some (.int .i64 fc) := bX_w10.out.cell 0
    have cbX1 : w10.cell? ⟨w2.heap.size, 1, none⟩ = some (.slice (some ⟨Mx, 0, none⟩) (putL P x).length cx) := bX_w10.out.cell 1
    have cbA0 : w10.cell? ⟨(w1.heap.size + 1), 0, none⟩ = some (.slice (some ⟨ga, 0, none⟩) x.l.length ca) := bA_w10.out.cell 0
    have cbA1 : w10.cell? ⟨(w1.heap.size + 1), 1, none⟩ = some (.int .i64 x.s) := bA_w10.out.cell 1
    have cbA2 : w10.cell? ⟨(w1.heap.size + 1), 2, none⟩ = some (.int .i64 x.e) := bA_w10.out.cell 2
    have cbA3 : w10.cell? ⟨(w1.heap.size + 1), 3, none⟩ = some (.string x.n) := bA_w10.out.cell 3
    go_wp2_with fail
    refine (HI2.out).mono ?_
    rintro e w11 ⟨rfl, hb⟩
    clear cbX0 cbX1 cbA0 cbA1 cbA2 cbA3
    have B_w11 : Hid (Below w.heap.size w w11) := grow_on B_w10.out hb
    have DP_w11 : Hid (DCh w11 Mc P) := DP_w10.out.below hb
    have DX_w11 : Hid (DAl w11 ga x) := DX_w10.out.below hb
    have bC_w11 : Hid (Blk w11 w1.heap.size #[.int .i64 fc, .slice (some ⟨Mc, 0, none⟩) P.length cc] 26) := bC_w10.out.grow hb
    have bA_w11 : Hid (Blk w11 (w1.heap.size + 1) #[.slice (some ⟨ga, 0, none⟩) x.l.length ca, .int .i64 x.s, .int .i64 x.e, .string x.n] 29) := bA_w10.out.grow hb
    have RX_w11 : Hid (RdN w11 (some ⟨Mx, 0, none⟩) (putL P x)) := RX_w10.out.below hb
    have bX_w11 : Hid (Blk w11 w2.heap.size #[.int .i64 fc, .slice (some ⟨Mx, 0, none⟩) (putL P x).length cx] 26) := bX_w10.out.grow hb
    have bD_w11 : Hid (Blk w11 w6.heap.size #[.int .i64 fd, .slice (some ⟨Md, 0, none⟩) Pd.length cd] 26) := bD_w10.out.grow hb
    have bE_w11 : Hid (Blk w11 w7.heap.size #[.int .i64 fd, .slice (some ⟨Me, 0, none⟩) (leftTo Pd now Pd.length).length ce] 26) := bE_w10.out.grow hb
    clear B_w10 DP_w10 DX_w10 bC_w10 bA_w10 RX_w10 bX_w10 bD_w10 bE_w10
    clear hb
    go_upto_region 16 with fail
    clear HI2
    have cbD0 : w11.cell? ⟨w6.heap.size, 0, none⟩ = some (.int .i64 fd) := bD_w11.out.cell 0
    have cbD1 : w11.cell? ⟨w6.heap.size, 1, none⟩ = some (.slice (some ⟨Md, 0, none⟩) Pd.length cd) := bD_w11.out.cell 1
    have cbE0 : w11.cell? ⟨w7.heap.size, 0, none⟩ = some (.int .i64 fd) := bE_w11.out.cell 0
    have cbE1 : w11.cell? ⟨w7.heap.size, 1, none⟩ = some (.slice (some ⟨Me, 0, none⟩) (leftTo Pd now Pd.length).length ce) := bE_w11.out.cell 1
    have hp5 := FP.out.2.1
    have hd5 := FL.out.2.2
    have hi0 : ¬ (((P.length : Nat) : Int) < 0) := by omega
    have hw : IntKind.i64.wrap (((goneTo Pd now Pd.length).length : Int) + ((leftTo Pd now Pd.length).length : Int)) = (Pd.length : Int) := by rw [IntKind.wrap_i64]; omega
    have hw' : (((goneTo Pd now Pd.length).length : Int) + ((leftTo Pd now Pd.length).length : Int)) = (Pd.length : Int) := by omega
    rw [HM.out.new]
    go_wp2
    clear cbD0 cbD1 cbE0 cbE1 hw hw' hi0
    go_loopw [22] (fun i w' => ∃ m : Nat, i = .int .i64 m ∧ m ≤ P.length ∧ Below w11.heap.size w11 w') (fun i _ => P.length - (intOf i).toNat)
    case atStart => exact ⟨0, rfl, Nat.zero_le _, Below.refl _ _⟩
    case round =>
      obtain ⟨m, rfl, hmP, hw0⟩ := hrel
      have HW : Hid (Below w11.heap.size w11 wr) := hw0
      have HBw : Hid (Below w.heap.size w wr) := grow_on B_w11.out hw0
      clear hw0
      have bCw := bC_w11.out.grow HW.out
      have bXw := bX_w11.out.grow HW.out
      have hne := Grown.some wr
      have yC1 : wr.cell? ⟨w1.heap.size, 1, none⟩ = some (.slice (some ⟨Mc, 0, none⟩) P.length cc) := bCw.cell 1
      have qC1 : ∀ y : Grown wr, y.out.cell? ⟨w1.heap.size, 1, none⟩ = some (.slice (some ⟨Mc, 0, none⟩) P.length cc) := fun y => y.cell bCw.lt (bCw.cell 1)
      have qX1 : ∀ y : Grown wr, y.out.cell? ⟨w2.heap.size, 1, none⟩ = some (.slice (some ⟨Mx, 0, none⟩) (putL P x).length cx) := fun y => y.cell bXw.lt (bXw.cell 1)
      by_cases hlt : m < P.length
      ·
        have hlt' : (m : Int) < (P.length : Int) := by omega
        have hmk' : ((m : Int) != -1) = true := by simp
        have hmk2 : ¬ (m : Int) = -1 := by omega
        have hmQ : m < (putL P x).length := by rw [HM.out.len]; omega
        have hmQ' : (m : Int) < ((putL P x).length : Int) := by omega
        obtain ⟨bb, oo, ee, hbX, gX, oX, cpX, hatX⟩ := (RX_w11.out.below HW.out).get hmQ
        cases ee
        obtain ⟨bb, oo, ee, hbC, gC, oC, cpC, hatC⟩ := (DP_w11.out.1.below HW.out).get hlt
        cases ee
        rw [HM.out.old m hlt] at hatX
        have rX0 : ∀ y : Grown wr, y.out.cell? ⟨Mx, m * 4, none⟩ = some (.slice (some ⟨gX, oX, none⟩) (nthP P m).l.length cpX) := fun y => y.cell hbX (by have := hatX.c0; rwa [Nat.zero_add] at this)
        have rX1 : ∀ y : Grown wr, y.out.cell? ⟨Mx, m * 4 + 1, none⟩ = some (.int .i64 (nthP P m).s) := fun y => y.cell hbX (by have := hatX.c1; rwa [Nat.zero_add] at this)
        have rX2 : ∀ y : Grown wr, y.out.cell? ⟨Mx, m * 4 + 2, none⟩ = some (.int .i64 (nthP P m).e) := fun y => y.cell hbX (by have := hatX.c2; rwa [Nat.zero_add] at this)
        have rX3 : ∀ y : Grown wr, y.out.cell? ⟨Mx, m * 4 + 3, none⟩ = some (.string (nthP P m).n) := fun y => y.cell hbX (by have := hatX.c3; rwa [Nat.zero_add] at this)
        have rC0 : ∀ y : Grown wr, y.out.cell? ⟨Mc, m * 4, none⟩ = some (.slice (some ⟨gC, oC, none⟩) (nthP P m).l.length cpC) := fun y => y.cell hbC (by have := hatC.c0; rwa [Nat.zero_add] at this)
        have rC1 : ∀ y : Grown wr, y.out.cell? ⟨Mc, m * 4 + 1, none⟩ = some (.int .i64 (nthP P m).s) := fun y => y.cell hbC (by have := hatC.c1; rwa [Nat.zero_add] at this)
        have rC2 : ∀ y : Grown wr, y.out.cell? ⟨Mc, m * 4 + 2, none⟩ = some (.int .i64 (nthP P m).e) := fun y => y.cell hbC (by have := hatC.c2; rwa [Nat.zero_add] at this)
        have rC3 : ∀ y : Grown wr, y.out.cell? ⟨Mc, m * 4 + 3, none⟩ = some (.string (nthP P m).n) := fun y => y.cell hbC (by have := hatC.c3; rwa [Nat.zero_add] at this)
        have SM : ∀ y : Grown wr, Hid (Calls Try.prog 23 #[.agg #[.slice (some ⟨gX, oX, none⟩) (nthP P m).l.length cpX, .int .i64 (nthP P m).s, .int .i64 (nthP P m).e, .string (nthP P m).n], .agg #[.slice (some ⟨gC, oC, none⟩) (nthP P m).l.length cpC, .int .i64 (nthP P m).s, .int .i64 (nthP P m).e, .string (nthP P m).n]] y.out fun e w' => e = .returned (.bool true) ∧ Below y.out.heap.size y.out w') := fun y => (implSameA_any _ _ _ _ _ _ _ _ _ _ _ _ y.out (hatX.reads.below y.bel) (hatC.reads.below y.bel) (finesP FP.out.1 m hlt) (finesP FP.out.1 m hlt)).mono fun e w' h => ⟨h.1.trans (retB (Alm.same_self _ _ _ _)), h.2⟩
        clear hatX hatC
        go_wp2
        refine wp_over (z := wr) (by kernel_rfl) (by kernel_rfl) (Below.refl _ _) ?_
        repeat (go_big_quiet_step (first | (go_at_call 23; with_reducible exact call_over (SM _).out)))
        refine wpQuiet_nil ?_
        intro wv hwv
        have hb2 := over_bel hwv
        clear hwv
        have HV2 : Hid (Below w11.heap.size w11 wv) := grow_on HW.out hb2
        clear hne hb2 yC1 qC1 qX1 bCw bXw rX0 rX1 rX2 rX3 rC0 rC1 rC2 rC3 SM
        go_wp2
        go_roundw
        case rel => exact ⟨m + 1, by go_num, by omega, HV2.out⟩
        case measure => simp [intOf]; omega
      ·
        have hge : ¬ (m : Int) < (P.length : Int) := by omega
        have bAw := bA_w11.out.grow HW.out
        have HQl := HM.out.len
        have qA0 : ∀ y : Grown wr, y.out.cell? ⟨(w1.heap.size + 1), 0, none⟩ = some (.slice (some ⟨ga, 0, none⟩) x.l.length ca) := fun y => y.cell bAw.lt (bAw.cell 0)
        have qA1 : ∀ y : Grown wr, y.out.cell? ⟨(w1.heap.size + 1), 1, none⟩ = some (.int .i64 x.s) := fun y => y.cell bAw.lt (bAw.cell 1)
        have qA2 : ∀ y : Grown wr, y.out.cell? ⟨(w1.heap.size + 1), 2, none⟩ = some (.int .i64 x.e) := fun y => y.cell bAw.lt (bAw.cell 2)
        have qA3 : ∀ y : Grown wr, y.out.cell? ⟨(w1.heap.size + 1), 3, none⟩ = some (.string x.n) := fun y => y.cell bAw.lt (bAw.cell 3)
        have hiQ : P.length < (putL P x).length := by omega
        have hiQ' : (P.length : Int) < ((putL P x).length : Int) := by omega
        have hl1 : (((putL P x).length : Int) == IntKind.i64.wrap ((P.length : Int) + 1)) = true := by rw [IntKind.wrap_i64]; simp; omega
        have hl2 : (((putL P x).length : Int) == (P.length : Int) + 1) = true := by simp; omega
        have hl3 : ((putL P x).length : Int) = (P.length : Int) + 1 := by omega
        obtain ⟨bb, oo, ee, hbX, gX, oX, cpX, hatX⟩ := (RX_w11.out.below HW.out).get hiQ
        cases ee
        rw [HM.out.own] at hatX
        have rX0 : ∀ y : Grown wr, y.out.cell? ⟨Mx, P.length * 4, none⟩ = some (.slice (some ⟨gX, oX, none⟩) x.l.length cpX) := fun y => y.cell hbX (by have := hatX.c0; rwa [Nat.zero_add] at this)
        have rX1 : ∀ y : Grown wr, y.out.cell? ⟨Mx, P.length * 4 + 1, none⟩ = some (.int .i64 x.s) := fun y => y.cell hbX (by have := hatX.c1; rwa [Nat.zero_add] at this)
        have rX2 : ∀ y : Grown wr, y.out.cell? ⟨Mx, P.length * 4 + 2, none⟩ = some (.int .i64 x.e) := fun y => y.cell hbX (by have := hatX.c2; rwa [Nat.zero_add] at this)
        have rX3 : ∀ y : Grown wr, y.out.cell? ⟨Mx, P.length * 4 + 3, none⟩ = some (.string x.n) := fun y => y.cell hbX (by have := hatX.c3; rwa [Nat.zero_add] at this)
        have SM : ∀ y : Grown wr, Hid (Calls Try.prog 23 #[.agg #[.slice (some ⟨gX, oX, none⟩) x.l.length cpX, .int .i64 x.s, .int .i64 x.e, .string x.n], .agg #[.slice (some ⟨ga, 0, none⟩) x.l.length ca, .int .i64 x.s, .int .i64 x.e, .string x.n]] y.out fun e w' => e = .returned (.bool true) ∧ Below y.out.heap.size y.out w') := fun y => (implSameA_any _ _ _ _ _ _ _ _ _ _ _ _ y.out (hatX.reads.below y.bel) ((DX_w11.out.1.below HW.out).below y.bel) (fine_max FP.out.2.2) (fine_max FP.out.2.2)).mono fun e w' h => ⟨h.1.trans (retB (Alm.same_self _ _ _ _)), h.2⟩
        clear hatX
        go_wp2
        refine wp_over (z := wr) (by kernel_rfl) (by kernel_rfl) (Below.refl _ _) ?_
        repeat (go_big_quiet_step (first | (go_at_call 23; with_reducible exact call_over (SM _).out)))
        refine wpQuiet_nil ?_
        intro wv hwv
        have hb2 := over_bel hwv
        clear hwv
        have HF : Hid (Below w.heap.size w wv) := grow_on HBw.out hb2
        clear hne hb2 yC1 qC1 qX1 bCw bXw bAw qA0 qA1 qA2 qA3 rX0 rX1 rX2 rX3 SM
        go_wp2
        go_ret
        exact ⟨rfl, HF.out⟩
  ·
    have HM : Hid (Hit P x k) := hm
    clear hm
    have HI1 : Hid (Calls Try.prog 21 #[.agg #[.int .i64 fc, .slice (some ⟨Mc, 0, none⟩) P.length cc], .slice (some ⟨ga, 0, none⟩) x.l.length ca] zz fun e w' => e = .returned (.int .i64 (k)) ∧ Below zz.heap.size zz w') := (implIn_any fc _ _ _ _ P x.l _ DP_zz.out.1.rd DX_zz.out.1 (by have := FP.out.2.1; omega) (finesP FP.out.1) (fine_max FP.out.2.2)).mono fun e w' h => ⟨h.1.trans (ChnI.retI HM.out.at'), h.2⟩
    go_upto_region 14 with fail
    have cbC0 : zz.cell? ⟨w1.heap.size, 0, none⟩ = some (.int .i64 fc) := bC_zz.out.cell 0
    have cbC1 : zz.cell? ⟨w1.heap.size, 1, none⟩ = some (.slice (some ⟨Mc, 0, none⟩) P.length cc) := bC_zz.out.cell 1
    have cbA0 : zz.cell? ⟨(w1.heap.size + 1), 0, none⟩ = some (.slice (some ⟨ga, 0, none⟩) x.l.length ca) := bA_zz.out.cell 0
    have cbA1 : zz.cell? ⟨(w1.heap.size + 1), 1, none⟩ = some (.int .i64 x.s) := bA_zz.out.cell 1
    have cbA2 : zz.cell? ⟨(w1.heap.size + 1), 2, none⟩ = some (.int .i64 x.e) := bA_zz.out.cell 2
    have cbA3 : zz.cell? ⟨(w1.heap.size + 1), 3, none⟩ = some (.string x.n) := bA_zz.out.cell 3
    go_wp2_with fail
    refine (HI1.out).mono ?_
    rintro e w20 ⟨rfl, hb⟩
    clear cbC0 cbC1 cbA0 cbA1 cbA2 cbA3
    have B_w20 : Hid (Below w.heap.size w w20) := grow_on B_zz.out hb
    have DP_w20 : Hid (DCh w20 Mc P) := DP_zz.out.below hb
    have DX_w20 : Hid (DAl w20 ga x) := DX_zz.out.below hb
    have bC_w20 : Hid (Blk w20 w1.heap.size #[.int .i64 fc, .slice (some ⟨Mc, 0, none⟩) P.length cc] 26) := bC_zz.out.grow hb
    have bA_w20 : Hid (Blk w20 (w1.heap.size + 1) #[.slice (some ⟨ga, 0, none⟩) x.l.length ca, .int .i64 x.s, .int .i64 x.e, .string x.n] 29) := bA_zz.out.grow hb
    have RX_w20 : Hid (RdN w20 (some ⟨Mx, 0, none⟩) (putL P x)) := RX_zz.out.below hb
    have bX_w20 : Hid (Blk w20 w2.heap.size #[.int .i64 fc, .slice (some ⟨Mx, 0, none⟩) (putL P x).length cx] 26) := bX_zz.out.grow hb
    have bD_w20 : Hid (Blk w20 w6.heap.size #[.int .i64 fd, .slice (some ⟨Md, 0, none⟩) Pd.length cd] 26) := bD_zz.out.grow hb
    have bE_w20 : Hid (Blk w20 w7.heap.size #[.int .i64 fd, .slice (some ⟨Me, 0, none⟩) (leftTo Pd now Pd.length).length ce] 26) := bE_zz.out.grow hb
    clear B_zz DP_zz DX_zz bC_zz bA_zz RX_zz bX_zz bD_zz bE_zz
    clear hb
    go_upto_region 15 with fail
    clear HI1
    have HI2 : Hid (Calls Try.prog 21 #[.agg #[.int .i64 fc, .slice (some ⟨Mx, 0, none⟩) (putL P x).length cx], .slice (some ⟨ga, 0, none⟩) x.l.length ca] w20 fun e w' => e = .returned (.int .i64 (k : Nat)) ∧ Below w20.heap.size w20 w') := (implIn_any fc _ _ _ _ (putL P x) x.l _ RX_w20.out.rd DX_w20.out.1 (by have := FQ.out.2; omega) (finesP FQ.out.1) (fine_max FP.out.2.2)).mono fun e w' h => ⟨h.1.trans (ChnI.retI HM.out.idx), h.2⟩
    have cbX0 : w20.cell? ⟨w2.heap.size, 0, none⟩ = some (.int .i64 fc) := bX_w20.out.cell 0
    have cbX1 : w20.cell? ⟨w2.heap.size, 1, none⟩ = some (.slice (some ⟨Mx, 0, none⟩) (putL P x).length cx) := bX_w20.out.cell 1
    have cbA0 : w20.cell? ⟨(w1.heap.size + 1), 0, none⟩ = some (.slice (some ⟨ga, 0, none⟩) x.l.length ca) := bA_w20.out.cell 0
    have cbA1 : w20.cell? ⟨(w1.heap.size + 1), 1, none⟩ = some (.int .i64 x.s) := bA_w20.out.cell 1
    have cbA2 : w20.cell? ⟨(w1.heap.size + 1), 2, none⟩ = some (.int .i64 x.e) := bA_w20.out.cell 2
    have cbA3 : w20.cell? ⟨(w1.heap.size + 1), 3, none⟩ = some (.string x.n) := bA_w20.out.cell 3
    go_wp2_with fail
    refine (HI2.out).mono ?_
    rintro e w21 ⟨rfl, hb⟩
    clear cbX0 cbX1 cbA0 cbA1 cbA2 cbA3
    have B_w21 : Hid (Below w.heap.size w w21) := grow_on B_w20.out hb
    have DP_w21 : Hid (DCh w21 Mc P) := DP_w20.out.below hb
    have DX_w21 : Hid (DAl w21 ga x) := DX_w20.out.below hb
    have bC_w21 : Hid (Blk w21 w1.heap.size #[.int .i64 fc, .slice (some ⟨Mc, 0, none⟩) P.length cc] 26) := bC_w20.out.grow hb
    have bA_w21 : Hid (Blk w21 (w1.heap.size + 1) #[.slice (some ⟨ga, 0, none⟩) x.l.length ca, .int .i64 x.s, .int .i64 x.e, .string x.n] 29) := bA_w20.out.grow hb
    have RX_w21 : Hid (RdN w21 (some ⟨Mx, 0, none⟩) (putL P x)) := RX_w20.out.below hb
    have bX_w21 : Hid (Blk w21 w2.heap.size #[.int .i64 fc, .slice (some ⟨Mx, 0, none⟩) (putL P x).length cx] 26) := bX_w20.out.grow hb
    have bD_w21 : Hid (Blk w21 w6.heap.size #[.int .i64 fd, .slice (some ⟨Md, 0, none⟩) Pd.length cd] 26) := bD_w20.out.grow hb
    have bE_w21 : Hid (Blk w21 w7.heap.size #[.int .i64 fd, .slice (some ⟨Me, 0, none⟩) (leftTo Pd now Pd.length).length ce] 26) := bE_w20.out.grow hb
    clear B_w20 DP_w20 DX_w20 bC_w20 bA_w20 RX_w20 bX_w20 bD_w20 bE_w20
    clear hb
    go_upto_region 16 with fail
    clear HI2
    have cbD0 : w21.cell? ⟨w6.heap.size, 0, none⟩ = some (.int .i64 fd) := bD_w21.out.cell 0
    have cbD1 : w21.cell? ⟨w6.heap.size, 1, none⟩ = some (.slice (some ⟨Md, 0, none⟩) Pd.length cd) := bD_w21.out.cell 1
    have cbE0 : w21.cell? ⟨w7.heap.size, 0, none⟩ = some (.int .i64 fd) := bE_w21.out.cell 0
    have cbE1 : w21.cell? ⟨w7.heap.size, 1, none⟩ = some (.slice (some ⟨Me, 0, none⟩) (leftTo Pd now Pd.length).length ce) := bE_w21.out.cell 1
    have hp5 := FP.out.2.1
    have hd5 := FL.out.2.2
    have hi0 : ¬ (((k : Nat) : Int) < 0) := by omega
    have hw : IntKind.i64.wrap (((goneTo Pd now Pd.length).length : Int) + ((leftTo Pd now Pd.length).length : Int)) = (Pd.length : Int) := by rw [IntKind.wrap_i64]; omega
    have hw' : (((goneTo Pd now Pd.length).length : Int) + ((leftTo Pd now Pd.length).length : Int)) = (Pd.length : Int) := by omega
    have hkl := HM.out.lt
    have hk0 : ¬ ((k : Int) < 0) := by omega
    rw [HM.out.new]
    go_wp2
    clear cbD0 cbD1 cbE0 cbE1 hw hw' hi0
    go_loopw [22] (fun i w' => ∃ m : Nat, i = .int .i64 m ∧ m ≤ P.length ∧ Below w21.heap.size w21 w') (fun i _ => P.length - (intOf i).toNat)
    case atStart => exact ⟨0, rfl, Nat.zero_le _, Below.refl _ _⟩
    case round =>
      obtain ⟨m, rfl, hmP, hw0⟩ := hrel
      have HW : Hid (Below w21.heap.size w21 wr) := hw0
      have HBw : Hid (Below w.heap.size w wr) := grow_on B_w21.out hw0
      clear hw0
      have bCw := bC_w21.out.grow HW.out
      have bXw := bX_w21.out.grow HW.out
      have hne := Grown.some wr
      have yC1 : wr.cell? ⟨w1.heap.size, 1, none⟩ = some (.slice (some ⟨Mc, 0, none⟩) P.length cc) := bCw.cell 1
      have qC1 : ∀ y : Grown wr, y.out.cell? ⟨w1.heap.size, 1, none⟩ = some (.slice (some ⟨Mc, 0, none⟩) P.length cc) := fun y => y.cell bCw.lt (bCw.cell 1)
      have qX1 : ∀ y : Grown wr, y.out.cell? ⟨w2.heap.size, 1, none⟩ = some (.slice (some ⟨Mx, 0, none⟩) (putL P x).length cx) := fun y => y.cell bXw.lt (bXw.cell 1)
      by_cases hlt : m < P.length
      ·
        have hlt' : (m : Int) < (P.length : Int) := by omega
        by_cases hmk : m = k
        ·
          have hmk' : ((m : Int) != (k : Int)) = false := by simp [hmk]
          go_wp2
          refine wp_over (z := wr) (by kernel_rfl) (by kernel_rfl) (Below.refl _ _) ?_
          repeat (go_big_quiet_step (fail))
          refine wpQuiet_nil ?_
          intro wv hwv
          have hb2 := over_bel hwv
          clear hwv
          have HV2 : Hid (Below w21.heap.size w21 wv) := grow_on HW.out hb2
          clear hne hb2 yC1 qC1 qX1 bCw bXw
          go_wp2
          go_roundw
          case rel => exact ⟨m + 1, by go_num, by omega, HV2.out⟩
          case measure => simp [intOf]; omega
        ·
          have hmk' : ((m : Int) != (k : Int)) = true := by simp; omega
          have hmk2 : ¬ (m : Int) = (k : Int) := by omega
          have hmQ : m < (putL P x).length := by rw [HM.out.len]; omega
          have hmQ' : (m : Int) < ((putL P x).length : Int) := by omega
          obtain ⟨bb, oo, ee, hbX, gX, oX, cpX, hatX⟩ := (RX_w21.out.below HW.out).get hmQ
          cases ee
          obtain ⟨bb, oo, ee, hbC, gC, oC, cpC, hatC⟩ := (DP_w21.out.1.below HW.out).get hlt
          cases ee
          rw [HM.out.old m hlt hmk] at hatX
          have rX0 : ∀ y : Grown wr, y.out.cell? ⟨Mx, m * 4, none⟩ = some (.slice (some ⟨gX, oX, none⟩) (nthP P m).l.length cpX) := fun y => y.cell hbX (by have := hatX.c0; rwa [Nat.zero_add] at this)
          have rX1 : ∀ y : Grown wr, y.out.cell? ⟨Mx, m * 4 + 1, none⟩ = some (.int .i64 (nthP P m).s) := fun y => y.cell hbX (by have := hatX.c1; rwa [Nat.zero_add] at this)
          have rX2 : ∀ y : Grown wr, y.out.cell? ⟨Mx, m * 4 + 2, none⟩ = some (.int .i64 (nthP P m).e) := fun y => y.cell hbX (by have := hatX.c2; rwa [Nat.zero_add] at this)
          have rX3 : ∀ y : Grown wr, y.out.cell? ⟨Mx, m * 4 + 3, none⟩ = some (.string (nthP P m).n) := fun y => y.cell hbX (by have := hatX.c3; rwa [Nat.zero_add] at this)
          have rC0 : ∀ y : Grown wr, y.out.cell? ⟨Mc, m * 4, none⟩ = some (.slice (some ⟨gC, oC, none⟩) (nthP P m).l.length cpC) := fun y => y.cell hbC (by have := hatC.c0; rwa [Nat.zero_add] at this)
          have rC1 : ∀ y : Grown wr, y.out.cell? ⟨Mc, m * 4 + 1, none⟩ = some (.int .i64 (nthP P m).s) := fun y => y.cell hbC (by have := hatC.c1; rwa [Nat.zero_add] at this)
          have rC2 : ∀ y : Grown wr, y.out.cell? ⟨Mc, m * 4 + 2, none⟩ = some (.int .i64 (nthP P m).e) := fun y => y.cell hbC (by have := hatC.c2; rwa [Nat.zero_add] at this)
          have rC3 : ∀ y : Grown wr, y.out.cell? ⟨Mc, m * 4 + 3, none⟩ = some (.string (nthP P m).n) := fun y => y.cell hbC (by have := hatC.c3; rwa [Nat.zero_add] at this)
          have SM : ∀ y : Grown wr, Hid (Calls Try.prog 23 #[.agg #[.slice (some ⟨gX, oX, none⟩) (nthP P m).l.length cpX, .int .i64 (nthP P m).s, .int .i64 (nthP P m).e, .string (nthP P m).n], .agg #[.slice (some ⟨gC, oC, none⟩) (nthP P m).l.length cpC, .int .i64 (nthP P m).s, .int .i64 (nthP P m).e, .string (nthP P m).n]] y.out fun e w' => e = .returned (.bool true) ∧ Below y.out.heap.size y.out w') := fun y => (implSameA_any _ _ _ _ _ _ _ _ _ _ _ _ y.out (hatX.reads.below y.bel) (hatC.reads.below y.bel) (finesP FP.out.1 m hlt) (finesP FP.out.1 m hlt)).mono fun e w' h => ⟨h.1.trans (retB (Alm.same_self _ _ _ _)), h.2⟩
          clear hatX hatC
          go_wp2
          refine wp_over (z := wr) (by kernel_rfl) (by kernel_rfl) (Below.refl _ _) ?_
          repeat (go_big_quiet_step (first | (go_at_call 23; with_reducible exact call_over (SM _).out)))
          refine wpQuiet_nil ?_
          intro wv hwv
          have hb2 := over_bel hwv
          clear hwv
          have HV2 : Hid (Below w21.heap.size w21 wv) := grow_on HW.out hb2
          clear hne hb2 yC1 qC1 qX1 bCw bXw rX0 rX1 rX2 rX3 rC0 rC1 rC2 rC3 SM
          go_wp2
          go_roundw
          case rel => exact ⟨m + 1, by go_num, by omega, HV2.out⟩
          case measure => simp [intOf]; omega
      ·
        have hge : ¬ (m : Int) < (P.length : Int) := by omega
        have bAw := bA_w21.out.grow HW.out
        have HQl := HM.out.len
        have hiQ : k < (putL P x).length := by omega
        have hiQ' : (k : Int) < ((putL P x).length : Int) := by omega
        have hiP' : (k : Int) < (P.length : Int) := by omega
        have hkk : (0 : Int) ≤ (k : Int) := by omega
        have hkg : ((k : Int) ≥ 0) := by omega
        have hl1 : (((putL P x).length : Int) == (P.length : Int)) = true := by simp; omega
        have hl3 : ((putL P x).length : Int) = (P.length : Int) := by omega
        obtain ⟨bb, oo, ee, hbX, gX, oX, cpX, hatX⟩ := (RX_w21.out.below HW.out).get hiQ
        cases ee
        obtain ⟨bb, oo, ee, hbC, gC, oC, cpC, hatC⟩ := (DP_w21.out.1.below HW.out).get hkl
        cases ee
        rw [HM.out.own] at hatX
        have kC := bCw.lt
        have kX := bXw.lt
        have kA := bAw.lt
        have mC1 : wr.cell? ⟨w1.heap.size, 1, none⟩ = some (.slice (some ⟨Mc, 0, none⟩) P.length cc) := bCw.cell 1
        have mX1 : wr.cell? ⟨w2.heap.size, 1, none⟩ = some (.slice (some ⟨Mx, 0, none⟩) (putL P x).length cx) := bXw.cell 1
        have mA0 : wr.cell? ⟨(w1.heap.size + 1), 0, none⟩ = some (.slice (some ⟨ga, 0, none⟩) x.l.length ca) := bAw.cell 0
        have mA1 : wr.cell? ⟨(w1.heap.size + 1), 1, none⟩ = some (.int .i64 x.s) := bAw.cell 1
        have mA2 : wr.cell? ⟨(w1.heap.size + 1), 2, none⟩ = some (.int .i64 x.e) := bAw.cell 2
        have mA3 : wr.cell? ⟨(w1.heap.size + 1), 3, none⟩ = some (.string x.n) := bAw.cell 3
        have rX0 : wr.cell? ⟨Mx, k * 4, none⟩ = some (.slice (some ⟨gX, oX, none⟩) x.l.length cpX) := by have := hatX.c0; rwa [Nat.zero_add] at this
        have rX1 : wr.cell? ⟨Mx, k * 4 + 1, none⟩ = some (.int .i64 (startB (nthP P k).s (nthP P k).e x.s x.e)) := by have := hatX.c1; rwa [Nat.zero_add] at this
        have rX2 : wr.cell? ⟨Mx, k * 4 + 2, none⟩ = some (.int .i64 x.e) := by have := hatX.c2; rwa [Nat.zero_add] at this
        have rX3 : wr.cell? ⟨Mx, k * 4 + 3, none⟩ = some (.string x.n) := by have := hatX.c3; rwa [Nat.zero_add] at this
        have rC0 : wr.cell? ⟨Mc, k * 4, none⟩ = some (.slice (some ⟨gC, oC, none⟩) (nthP P k).l.length cpC) := by have := hatC.c0; rwa [Nat.zero_add] at this
        have rC1 : wr.cell? ⟨Mc, k * 4 + 1, none⟩ = some (.int .i64 (nthP P k).s) := by have := hatC.c1; rwa [Nat.zero_add] at this
        have rC2 : wr.cell? ⟨Mc, k * 4 + 2, none⟩ = some (.int .i64 (nthP P k).e) := by have := hatC.c2; rwa [Nat.zero_add] at this
        have rC3 : wr.cell? ⟨Mc, k * 4 + 3, none⟩ = some (.string (nthP P k).n) := by have := hatC.c3; rwa [Nat.zero_add] at this
        have HS : Hid (∀ w', Below wr.heap.size wr w' → Below wr.heap.size wr w' ∧ w'.cell? ⟨w1.heap.size, 1, none⟩ = some (.slice (some ⟨Mc, 0, none⟩) P.length cc) ∧ w'.cell? ⟨w2.heap.size, 1, none⟩ = some (.slice (some ⟨Mx, 0, none⟩) (putL P x).length cx) ∧ w'.cell? ⟨(w1.heap.size + 1), 0, none⟩ = some (.slice (some ⟨ga, 0, none⟩) x.l.length ca) ∧ w'.cell? ⟨(w1.heap.size + 1), 1, none⟩ = some (.int .i64 x.s) ∧ w'.cell? ⟨(w1.heap.size + 1), 2, none⟩ = some (.int .i64 x.e) ∧ w'.cell? ⟨(w1.heap.size + 1), 3, none⟩ = some (.string x.n) ∧ w'.cell? ⟨Mx, k * 4, none⟩ = some (.slice (some ⟨gX, oX, none⟩) x.l.length cpX) ∧ w'.cell? ⟨Mx, k * 4 + 1, none⟩ = some (.int .i64 (startB (nthP P k).s (nthP P k).e x.s x.e)) ∧ w'.cell? ⟨Mx, k * 4 + 2, none⟩ = some (.int .i64 x.e) ∧ w'.cell? ⟨Mx, k * 4 + 3, none⟩ = some (.string x.n) ∧ w'.cell? ⟨Mc, k * 4, none⟩ = some (.slice (some ⟨gC, oC, none⟩) (nthP P k).l.length cpC) ∧ w'.cell? ⟨Mc, k * 4 + 1, none⟩ = some (.int .i64 (nthP P k).s) ∧ w'.cell? ⟨Mc, k * 4 + 2, none⟩ = some (.int .i64 (nthP P k).e) ∧ w'.cell? ⟨Mc, k * 4 + 3, none⟩ = some (.string (nthP P k).n)) := fun w' h => ⟨h, (h.cell kC).trans mC1, (h.cell kX).trans mX1, (h.cell kA).trans mA0, (h.cell kA).trans mA1, (h.cell kA).trans mA2, (h.cell kA).trans mA3, (h.cell hbX).trans rX0, (h.cell hbX).trans rX1, (h.cell hbX).trans rX2, (h.cell hbX).trans rX3, (h.cell hbC).trans rC0, (h.cell hbC).trans rC1, (h.cell hbC).trans rC2, (h.cell hbC).trans rC3⟩
        have kz : Below wr.heap.size wr wr.drew := (Below.refl _ _).drew
        have MG : Hid (∀ (y : World), Below wr.heap.size wr y → Calls Try.prog 24 #[.agg #[.slice (some ⟨gC, oC, none⟩) (nthP P k).l.length cpC, .int .i64 (nthP P k).s, .int .i64 (nthP P k).e, .string (nthP P k).n], .agg #[.slice (some ⟨ga, 0, none⟩) x.l.length ca, .int .i64 x.s, .int .i64 x.e, .string x.n]] y fun r w' => (∃ M' c', r = .returned (.agg #[.slice (some ⟨M', 0, none⟩) x.l.length c', .int .i64 (startB (nthP P k).s (nthP P k).e x.s x.e), .int .i64 x.e, .string x.n]) ∧ LabR.Own y w' M' x.l) ∧ Below y.heap.size y w') := fun y hy => implMerge_any _ _ _ _ _ _ _ _ _ _ _ _ _ y ((DX_w21.out.1.below HW.out).below hy) (by have := FP.out.2.2.2; omega)
        have SM : Hid (∀ (y : World) (M' c' : Nat), Below wr.heap.size wr y → Reads y (some ⟨M', 0, none⟩) x.l → Calls Try.prog 23 #[.agg #[.slice (some ⟨gX, oX, none⟩) x.l.length cpX, .int .i64 (startB (nthP P k).s (nthP P k).e x.s x.e), .int .i64 x.e, .string x.n], .agg #[.slice (some ⟨M', 0, none⟩) x.l.length c', .int .i64 (startB (nthP P k).s (nthP P k).e x.s x.e), .int .i64 x.e, .string x.n]] y fun r w' => r = .returned (.bool true) ∧ Below y.heap.size y w') := fun y M' c' hy hr => (implSameA_any _ _ _ _ x.l x.l _ _ _ _ _ _ y (hatX.reads.below hy) hr (fine_max FP.out.2.2) (fine_max FP.out.2.2)).mono fun e w' h => ⟨h.1.trans (retB (Alm.same_self _ _ _ _)), h.2⟩
        clear hatX hatC hne qC1 qX1 bCw bXw bAw HQl hl3
        go_wp2
        have hk9 : ¬ ((k : Int) < 0) := by omega
        have hk8 : ((k : Int) < 0) = False := eq_false hk9
        have hk7 : decide ((k : Int) < 0) = false := decide_eq_false hk9
        refine wp_region_held_drew (S := fun w' => Below wr.heap.size wr w' ∧ w'.cell? ⟨w1.heap.size, 1, none⟩ = some (.slice (some ⟨Mc, 0, none⟩) P.length cc) ∧ w'.cell? ⟨w2.heap.size, 1, none⟩ = some (.slice (some ⟨Mx, 0, none⟩) (putL P x).length cx) ∧ w'.cell? ⟨(w1.heap.size + 1), 0, none⟩ = some (.slice (some ⟨ga, 0, none⟩) x.l.length ca) ∧ w'.cell? ⟨(w1.heap.size + 1), 1, none⟩ = some (.int .i64 x.s) ∧ w'.cell? ⟨(w1.heap.size + 1), 2, none⟩ = some (.int .i64 x.e) ∧ w'.cell? ⟨(w1.heap.size + 1), 3, none⟩ = some (.string x.n) ∧ w'.cell? ⟨Mx, k * 4, none⟩ = some (.slice (some ⟨gX, oX, none⟩) x.l.length cpX) ∧ w'.cell? ⟨Mx, k * 4 + 1, none⟩ = some (.int .i64 (startB (nthP P k).s (nthP P k).e x.s x.e)) ∧ w'.cell? ⟨Mx, k * 4 + 2, none⟩ = some (.int .i64 x.e) ∧ w'.cell? ⟨Mx, k * 4 + 3, none⟩ = some (.string x.n) ∧ w'.cell? ⟨Mc, k * 4, none⟩ = some (.slice (some ⟨gC, oC, none⟩) (nthP P k).l.length cpC) ∧ w'.cell? ⟨Mc, k * 4 + 1, none⟩ = some (.int .i64 (nthP P k).s) ∧ w'.cell? ⟨Mc, k * 4 + 2, none⟩ = some (.int .i64 (nthP P k).e) ∧ w'.cell? ⟨Mc, k * 4 + 3, none⟩ = some (.string (nthP P k).n)) (by kernel_rfl) (HS.out _ kz) (fun hHeld => ?_)
        refine wpAnyH_take (i := 0) (oi := { dst := some 169, op := Op.move (Operand.tmp 20), type := 3, pos := "laws.go:333", after := #[], guard := none }) (v := ?vL0) rfl (by kernel_rfl) (by kernel_rfl) (by kernel_rfl) (fun _ _ _ h => h) (Or.inl ⟨by rfl, ?hyL0⟩) hHeld ?_
        case hyL0 => (intro w hSw; (try dsimp only at hSw); go_simp <;> with_reducible rfl)
        try simp only [Act.put, List.setIfInBounds_toArray, List.set_cons_zero, List.set_cons_succ]
        refine wpAnyH_take (i := 1) (oi := { dst := some 170, op := Op.binOp BinOp.lss 3 (Operand.tmp 169) (Operand.const (Value.int IntKind.i64 0)) 3, type := 4, pos := "laws.go:333", after := #[{ on := 0, ground := Ground.data }], guard := none }) (v := ?vL1) rfl (by kernel_rfl) (by kernel_rfl) (by kernel_rfl) (fun _ _ _ h => h) (Or.inl ⟨by rfl, ?hyL1⟩) hHeld ?_
        case hyL1 => (intro w hSw; (try dsimp only at hSw); go_simp <;> with_reducible rfl)
        try simp only [Act.put, List.setIfInBounds_toArray, List.set_cons_zero, List.set_cons_succ]
        refine wpAnyH_take (i := 2) (oi := { dst := some 171, op := Op.move (Operand.tmp 170), type := 4, pos := "laws.go:333", after := #[{ on := 1, ground := Ground.data }], guard := none }) (v := ?vL2) rfl (by kernel_rfl) (by kernel_rfl) (by kernel_rfl) (fun _ _ _ h => h) (Or.inl ⟨by rfl, ?hyL2⟩) hHeld ?_
        case hyL2 => (intro w hSw; (try dsimp only at hSw); go_simp <;> with_reducible rfl)
        try simp only [Act.put, List.setIfInBounds_toArray, List.set_cons_zero, List.set_cons_succ]
        refine wpAnyH_take (i := 3) (oi := { dst := some 172, op := Op.fieldAddr 26 (Operand.tmp 5) 1, type := 0, pos := "laws.go:333", after := #[{ on := 2, ground := Ground.guard }], guard := some (2, true) }) (v := undef) rfl (by kernel_rfl) (by kernel_rfl) (by kernel_rfl) (fun _ _ _ h => h) (Or.inr ⟨by rfl, rfl⟩) hHeld ?_
        try simp only [Act.put, List.setIfInBounds_toArray, List.set_cons_zero, List.set_cons_succ]
        refine wpAnyH_take (i := 4) (oi := { dst := some 173, op := Op.load 24 (Operand.tmp 172), type := 24, pos := "laws.go:333", after := #[{ on := 3, ground := Ground.data }, { on := 2, ground := Ground.guard }], guard := some (2, true) }) (v := undef) rfl (by kernel_rfl) (by kernel_rfl) (by kernel_rfl) (fun _ _ _ h => h) (Or.inr ⟨by rfl, rfl⟩) hHeld ?_
        try simp only [Act.put, List.setIfInBounds_toArray, List.set_cons_zero, List.set_cons_succ]
        refine wpAnyH_take (i := 5) (oi := { dst := some 174, op := Op.call { callee := Callee.builtin Builtin.len, args := #[Operand.tmp 173], argTypes := #[24] }, type := 3, pos := "laws.go:333", after := #[{ on := 4, ground := Ground.data }, { on := 2, ground := Ground.guard }], guard := some (2, true) }) (v := undef) rfl (by kernel_rfl) (by kernel_rfl) (by kernel_rfl) (fun _ _ _ h => h) (Or.inr ⟨by rfl, rfl⟩) hHeld ?_
        try simp only [Act.put, List.setIfInBounds_toArray, List.set_cons_zero, List.set_cons_succ]
        refine wpAnyH_take (i := 6) (oi := { dst := some 175, op := Op.fieldAddr 26 (Operand.tmp 3) 1, type := 0, pos := "laws.go:333", after := #[{ on := 2, ground := Ground.guard }], guard := some (2, true) }) (v := undef) rfl (by kernel_rfl) (by kernel_rfl) (by kernel_rfl) (fun _ _ _ h => h) (Or.inr ⟨by rfl, rfl⟩) hHeld ?_
        try simp only [Act.put, List.setIfInBounds_toArray, List.set_cons_zero, List.set_cons_succ]
        refine wpAnyH_take (i := 7) (oi := { dst := some 176, op := Op.load 24 (Operand.tmp 175), type := 24, pos := "laws.go:333", after := #[{ on := 6, ground := Ground.data }, { on := 2, ground := Ground.guard }], guard := some (2, true) }) (v := undef) rfl (by kernel_rfl) (by kernel_rfl) (by kernel_rfl) (fun _ _ _ h => h) (Or.inr ⟨by rfl, rfl⟩) hHeld ?_
        try simp only [Act.put, List.setIfInBounds_toArray, List.set_cons_zero, List.set_cons_succ]
        refine wpAnyH_take (i := 8) (oi := { dst := some 177, op := Op.call { callee := Callee.builtin Builtin.len, args := #[Operand.tmp 176], argTypes := #[24] }, type := 3, pos := "laws.go:333", after := #[{ on := 7, ground := Ground.data }, { on := 2, ground := Ground.guard }], guard := some (2, true) }) (v := undef) rfl (by kernel_rfl) (by kernel_rfl) (by kernel_rfl) (fun _ _ _ h => h) (Or.inr ⟨by rfl, rfl⟩) hHeld ?_
        try simp only [Act.put, List.setIfInBounds_toArray, List.set_cons_zero, List.set_cons_succ]
        refine wpAnyH_take (i := 9) (oi := { dst := some 178, op := Op.binOp BinOp.add 3 (Operand.tmp 177) (Operand.const (Value.int IntKind.i64 1)) 3, type := 3, pos := "laws.go:333", after := #[{ on := 8, ground := Ground.data }, { on := 2, ground := Ground.guard }], guard := some (2, true) }) (v := undef) rfl (by kernel_rfl) (by kernel_rfl) (by kernel_rfl) (fun _ _ _ h => h) (Or.inr ⟨by rfl, rfl⟩) hHeld ?_
        try simp only [Act.put, List.setIfInBounds_toArray, List.set_cons_zero, List.set_cons_succ]
        refine wpAnyH_take (i := 10) (oi := { dst := some 179, op := Op.binOp BinOp.eql 3 (Operand.tmp 174) (Operand.tmp 178) 3, type := 4, pos := "laws.go:333", after := #[{ on := 5, ground := Ground.data }, { on := 9, ground := Ground.data }, { on := 2, ground := Ground.guard }], guard := some (2, true) }) (v := undef) rfl (by kernel_rfl) (by kernel_rfl) (by kernel_rfl) (fun _ _ _ h => h) (Or.inr ⟨by rfl, rfl⟩) hHeld ?_
        try simp only [Act.put, List.setIfInBounds_toArray, List.set_cons_zero, List.set_cons_succ]
        refine wpAnyH_take (i := 11) (oi := { dst := some 180, op := Op.pick (Operand.tmp 171) (Operand.tmp 179) (Operand.const (Value.bool false)), type := 4, pos := "laws.go:333", after := #[{ on := 2, ground := Ground.data }, { on := 10, ground := Ground.data }], guard := none }) (v := ?vL11) rfl (by kernel_rfl) (by kernel_rfl) (by kernel_rfl) (fun _ _ _ h => h) (Or.inl ⟨by rfl, ?hyL11⟩) hHeld ?_
        case hyL11 => (intro w hSw; (try dsimp only at hSw); go_simp <;> with_reducible rfl)
        try simp only [Act.put, List.setIfInBounds_toArray, List.set_cons_zero, List.set_cons_succ]
        refine wpAnyH_take (i := 12) (oi := { dst := some 181, op := Op.move (Operand.tmp 180), type := 4, pos := "laws.go:333", after := #[{ on := 11, ground := Ground.data }, { on := 2, ground := Ground.chain }], guard := none }) (v := ?vL12) rfl (by kernel_rfl) (by kernel_rfl) (by kernel_rfl) (fun _ _ _ h => h) (Or.inl ⟨by rfl, ?hyL12⟩) hHeld ?_
        case hyL12 => (intro w hSw; (try dsimp only at hSw); go_simp <;> with_reducible rfl)
        try simp only [Act.put, List.setIfInBounds_toArray, List.set_cons_zero, List.set_cons_succ]
        refine wpAnyH_take (i := 13) (oi := { dst := some 182, op := Op.fieldAddr 26 (Operand.tmp 5) 1, type := 0, pos := "laws.go:333", after := #[{ on := 12, ground := Ground.guard }], guard := some (12, true) }) (v := undef) rfl (by kernel_rfl) (by kernel_rfl) (by kernel_rfl) (fun _ _ _ h => h) (Or.inr ⟨by rfl, rfl⟩) hHeld ?_
        try simp only [Act.put, List.setIfInBounds_toArray, List.set_cons_zero, List.set_cons_succ]
        refine wpAnyH_take (i := 14) (oi := { dst := some 183, op := Op.load 24 (Operand.tmp 182), type := 24, pos := "laws.go:333", after := #[{ on := 13, ground := Ground.data }, { on := 12, ground := Ground.guard }], guard := some (12, true) }) (v := undef) rfl (by kernel_rfl) (by kernel_rfl) (by kernel_rfl) (fun _ _ _ h => h) (Or.inr ⟨by rfl, rfl⟩) hHeld ?_
        try simp only [Act.put, List.setIfInBounds_toArray, List.set_cons_zero, List.set_cons_succ]
        refine wpAnyH_take (i := 15) (oi := { dst := some 184, op := Op.move (Operand.tmp 21), type := 3, pos := "laws.go:333", after := #[{ on := 12, ground := Ground.guard }], guard := some (12, true) }) (v := undef) rfl (by kernel_rfl) (by kernel_rfl) (by kernel_rfl) (fun _ _ _ h => h) (Or.inr ⟨by rfl, rfl⟩) hHeld ?_
        try simp only [Act.put, List.setIfInBounds_toArray, List.set_cons_zero, List.set_cons_succ]
        refine wpAnyH_take (i := 16) (oi := { dst := some 185, op := Op.indexAddr 24 (Operand.tmp 183) (Operand.tmp 184), type := 0, pos := "laws.go:333", after := #[{ on := 14, ground := Ground.data }, { on := 15, ground := Ground.data }, { on := 12, ground := Ground.guard }], guard := some (12, true) }) (v := undef) rfl (by kernel_rfl) (by kernel_rfl) (by kernel_rfl) (fun _ _ _ h => h) (Or.inr ⟨by rfl, rfl⟩) hHeld ?_
        try simp only [Act.put, List.setIfInBounds_toArray, List.set_cons_zero, List.set_cons_succ]
        refine wpAnyH_take (i := 17) (oi := { dst := some 186, op := Op.load 29 (Operand.tmp 185), type := 29, pos := "laws.go:333", after := #[{ on := 16, ground := Ground.data }, { on := 12, ground := Ground.guard }], guard := some (12, true) }) (v := undef) rfl (by kernel_rfl) (by kernel_rfl) (by kernel_rfl) (fun _ _ _ h => h) (Or.inr ⟨by rfl, rfl⟩) hHeld ?_
        try simp only [Act.put, List.setIfInBounds_toArray, List.set_cons_zero, List.set_cons_succ]
        refine wpAnyH_take (i := 18) (oi := { dst := some 187, op := Op.load 29 (Operand.tmp 4), type := 29, pos := "laws.go:333", after := #[{ on := 12, ground := Ground.guard }], guard := some (12, true) }) (v := undef) rfl (by kernel_rfl) (by kernel_rfl) (by kernel_rfl) (fun _ _ _ h => h) (Or.inr ⟨by rfl, rfl⟩) hHeld ?_
        try simp only [Act.put, List.setIfInBounds_toArray, List.set_cons_zero, List.set_cons_succ]
        refine wpAnyH_ready (rs := [19]) (by kernel_rfl) (by simp) ?_
        refine AllReadyH.cons (o := { dst := some 188, op := Op.call { callee := Callee.value (Operand.func 23), args := #[Operand.tmp 186, Operand.tmp 187], argTypes := #[29, 29] }, type := 4, pos := "laws.go:333", after := #[{ on := 17, ground := Ground.data }, { on := 18, ground := Ground.data }, { on := 12, ground := Ground.chain }, { on := 12, ground := Ground.guard }], guard := some (12, true) }) rfl (fun K hK => ?_) AllReadyH.nil
        go_simp
        refine hK.out _ _ hHeld (fun hHeld => ?_)
        clear hK K
        try simp only [Act.put, List.setIfInBounds_toArray, List.set_cons_zero, List.set_cons_succ]
        refine wpAnyH_take (i := 20) (oi := { dst := some 189, op := Op.pick (Operand.tmp 181) (Operand.tmp 188) (Operand.const (Value.bool false)), type := 4, pos := "laws.go:333", after := #[{ on := 12, ground := Ground.data }, { on := 19, ground := Ground.data }], guard := none }) (v := ?vL20) rfl (by kernel_rfl) (by kernel_rfl) (by kernel_rfl) (fun _ _ _ h => h) (Or.inl ⟨by rfl, ?hyL20⟩) hHeld ?_
        case hyL20 => (intro w hSw; (try dsimp only at hSw); go_simp <;> with_reducible rfl)
        try simp only [Act.put, List.setIfInBounds_toArray, List.set_cons_zero, List.set_cons_succ]
        refine wpAnyH_take (i := 21) (oi := { dst := some 190, op := Op.move (Operand.tmp 189), type := 4, pos := "laws.go:333", after := #[{ on := 20, ground := Ground.data }, { on := 19, ground := Ground.chain }], guard := none }) (v := ?vL21) rfl (by kernel_rfl) (by kernel_rfl) (by kernel_rfl) (fun _ _ _ h => h) (Or.inl ⟨by rfl, ?hyL21⟩) hHeld ?_
        case hyL21 => (intro w hSw; (try dsimp only at hSw); go_simp <;> with_reducible rfl)
        try simp only [Act.put, List.setIfInBounds_toArray, List.set_cons_zero, List.set_cons_succ]
        refine wpAnyH_take (i := 22) (oi := { dst := some 191, op := Op.move (Operand.tmp 20), type := 3, pos := "laws.go:333", after := #[{ on := 21, ground := Ground.guard }], guard := some (21, false) }) (v := ?vL22) rfl (by kernel_rfl) (by kernel_rfl) (by kernel_rfl) (fun _ _ _ h => h) (Or.inl ⟨by rfl, ?hyL22⟩) hHeld ?_
        case hyL22 => (intro w hSw; (try dsimp only at hSw); go_simp <;> with_reducible rfl)
        try simp only [Act.put, List.setIfInBounds_toArray, List.set_cons_zero, List.set_cons_succ]
        refine wpAnyH_take (i := 23) (oi := { dst := some 192, op := Op.binOp BinOp.geq 3 (Operand.tmp 191) (Operand.const (Value.int IntKind.i64 0)) 3, type := 4, pos := "laws.go:333", after := #[{ on := 22, ground := Ground.data }, { on := 21, ground := Ground.guard }], guard := some (21, false) }) (v := ?vL23) rfl (by kernel_rfl) (by kernel_rfl) (by kernel_rfl) (fun _ _ _ h => h) (Or.inl ⟨by rfl, ?hyL23⟩) hHeld ?_
        case hyL23 => (intro w hSw; (try dsimp only at hSw); go_simp <;> with_reducible rfl)
        try simp only [Act.put, List.setIfInBounds_toArray, List.set_cons_zero, List.set_cons_succ]
        refine wpAnyH_take (i := 24) (oi := { dst := some 193, op := Op.move (Operand.tmp 192), type := 4, pos := "laws.go:333", after := #[{ on := 23, ground := Ground.data }, { on := 21, ground := Ground.chain }, { on := 21, ground := Ground.guard }], guard := some (21, false) }) (v := ?vL24) rfl (by kernel_rfl) (by kernel_rfl) (by kernel_rfl) (fun _ _ _ h => h) (Or.inl ⟨by rfl, ?hyL24⟩) hHeld ?_
        case hyL24 => (intro w hSw; (try dsimp only at hSw); go_simp <;> with_reducible rfl)
        try simp only [Act.put, List.setIfInBounds_toArray, List.set_cons_zero, List.set_cons_succ]
        refine wpAnyH_take (i := 25) (oi := { dst := some 194, op := Op.fieldAddr 26 (Operand.tmp 5) 1, type := 0, pos := "laws.go:333", after := #[{ on := 24, ground := Ground.guard }], guard := some (24, true) }) (v := ?vL25) rfl (by kernel_rfl) (by kernel_rfl) (by kernel_rfl) (fun _ _ _ h => h) (Or.inl ⟨by rfl, ?hyL25⟩) hHeld ?_
        case hyL25 => (intro w hSw; (try dsimp only at hSw); go_simp <;> with_reducible rfl)
        try simp only [Act.put, List.setIfInBounds_toArray, List.set_cons_zero, List.set_cons_succ]
        refine wpAnyH_take (i := 26) (oi := { dst := some 195, op := Op.load 24 (Operand.tmp 194), type := 24, pos := "laws.go:333", after := #[{ on := 25, ground := Ground.data }, { on := 24, ground := Ground.guard }], guard := some (24, true) }) (v := ?vL26) rfl (by kernel_rfl) (by kernel_rfl) (by kernel_rfl) (fun _ _ _ h => h) (Or.inl ⟨by rfl, ?hyL26⟩) hHeld ?_
        case hyL26 => (intro w hSw; (try dsimp only at hSw); go_simp <;> with_reducible rfl)
        try simp only [Act.put, List.setIfInBounds_toArray, List.set_cons_zero, List.set_cons_succ]
        refine wpAnyH_take (i := 27) (oi := { dst := some 196, op := Op.call { callee := Callee.builtin Builtin.len, args := #[Operand.tmp 195], argTypes := #[24] }, type := 3, pos := "laws.go:333", after := #[{ on := 26, ground := Ground.data }, { on := 24, ground := Ground.guard }], guard := some (24, true) }) (v := ?vL27) rfl (by kernel_rfl) (by kernel_rfl) (by kernel_rfl) (fun _ _ _ h => h) (Or.inl ⟨by rfl, ?hyL27⟩) hHeld ?_
        case hyL27 => (intro w hSw; (try dsimp only at hSw); go_simp <;> with_reducible rfl)
        try simp only [Act.put, List.setIfInBounds_toArray, List.set_cons_zero, List.set_cons_succ]
        refine wpAnyH_take (i := 28) (oi := { dst := some 197, op := Op.fieldAddr 26 (Operand.tmp 3) 1, type := 0, pos := "laws.go:333", after := #[{ on := 24, ground := Ground.guard }], guard := some (24, true) }) (v := ?vL28) rfl (by kernel_rfl) (by kernel_rfl) (by kernel_rfl) (fun _ _ _ h => h) (Or.inl ⟨by rfl, ?hyL28⟩) hHeld ?_
        case hyL28 => (intro w hSw; (try dsimp only at hSw); go_simp <;> with_reducible rfl)
        try simp only [Act.put, List.setIfInBounds_toArray, List.set_cons_zero, List.set_cons_succ]
        refine wpAnyH_take (i := 29) (oi := { dst := some 198, op := Op.load 24 (Operand.tmp 197), type := 24, pos := "laws.go:333", after := #[{ on := 28, ground := Ground.data }, { on := 24, ground := Ground.guard }], guard := some (24, true) }) (v := ?vL29) rfl (by kernel_rfl) (by kernel_rfl) (by kernel_rfl) (fun _ _ _ h => h) (Or.inl ⟨by rfl, ?hyL29⟩) hHeld ?_
        case hyL29 => (intro w hSw; (try dsimp only at hSw); go_simp <;> with_reducible rfl)
        try simp only [Act.put, List.setIfInBounds_toArray, List.set_cons_zero, List.set_cons_succ]
        refine wpAnyH_take (i := 30) (oi := { dst := some 199, op := Op.call { callee := Callee.builtin Builtin.len, args := #[Operand.tmp 198], argTypes := #[24] }, type := 3, pos := "laws.go:333", after := #[{ on := 29, ground := Ground.data }, { on := 24, ground := Ground.guard }], guard := some (24, true) }) (v := ?vL30) rfl (by kernel_rfl) (by kernel_rfl) (by kernel_rfl) (fun _ _ _ h => h) (Or.inl ⟨by rfl, ?hyL30⟩) hHeld ?_
        case hyL30 => (intro w hSw; (try dsimp only at hSw); go_simp <;> with_reducible rfl)
        try simp only [Act.put, List.setIfInBounds_toArray, List.set_cons_zero, List.set_cons_succ]
        refine wpAnyH_take (i := 31) (oi := { dst := some 200, op := Op.binOp BinOp.eql 3 (Operand.tmp 196) (Operand.tmp 199) 3, type := 4, pos := "laws.go:333", after := #[{ on := 27, ground := Ground.data }, { on := 30, ground := Ground.data }, { on := 24, ground := Ground.guard }], guard := some (24, true) }) (v := ?vL31) rfl (by kernel_rfl) (by kernel_rfl) (by kernel_rfl) (fun _ _ _ h => h) (Or.inl ⟨by rfl, ?hyL31⟩) hHeld ?_
        case hyL31 => (intro w hSw; (try dsimp only at hSw); go_simp <;> with_reducible rfl)
        try simp only [Act.put, List.setIfInBounds_toArray, List.set_cons_zero, List.set_cons_succ]
        refine wpAnyH_take (i := 32) (oi := { dst := some 201, op := Op.pick (Operand.tmp 193) (Operand.tmp 200) (Operand.const (Value.bool false)), type := 4, pos := "laws.go:333", after := #[{ on := 24, ground := Ground.data }, { on := 31, ground := Ground.data }, { on := 21, ground := Ground.guard }], guard := some (21, false) }) (v := ?vL32) rfl (by kernel_rfl) (by kernel_rfl) (by kernel_rfl) (fun _ _ _ h => h) (Or.inl ⟨by rfl, ?hyL32⟩) hHeld ?_
        case hyL32 => (intro w hSw; (try dsimp only at hSw); go_simp <;> with_reducible rfl)
        try simp only [Act.put, List.setIfInBounds_toArray, List.set_cons_zero, List.set_cons_succ]
        refine wpAnyH_take (i := 33) (oi := { dst := some 202, op := Op.move (Operand.tmp 201), type := 4, pos := "laws.go:333", after := #[{ on := 32, ground := Ground.data }, { on := 24, ground := Ground.chain }, { on := 21, ground := Ground.guard }], guard := some (21, false) }) (v := ?vL33) rfl (by kernel_rfl) (by kernel_rfl) (by kernel_rfl) (fun _ _ _ h => h) (Or.inl ⟨by rfl, ?hyL33⟩) hHeld ?_
        case hyL33 => (intro w hSw; (try dsimp only at hSw); go_simp <;> with_reducible rfl)
        try simp only [Act.put, List.setIfInBounds_toArray, List.set_cons_zero, List.set_cons_succ]
        refine wpAnyH_take (i := 34) (oi := { dst := some 203, op := Op.fieldAddr 26 (Operand.tmp 5) 1, type := 0, pos := "laws.go:333", after := #[{ on := 33, ground := Ground.guard }], guard := some (33, true) }) (v := ?vL34) rfl (by kernel_rfl) (by kernel_rfl) (by kernel_rfl) (fun _ _ _ h => h) (Or.inl ⟨by rfl, ?hyL34⟩) hHeld ?_
        case hyL34 => (intro w hSw; (try dsimp only at hSw); go_simp <;> with_reducible rfl)
        try simp only [Act.put, List.setIfInBounds_toArray, List.set_cons_zero, List.set_cons_succ]
        refine wpAnyH_take (i := 35) (oi := { dst := some 204, op := Op.load 24 (Operand.tmp 203), type := 24, pos := "laws.go:333", after := #[{ on := 34, ground := Ground.data }, { on := 33, ground := Ground.guard }], guard := some (33, true) }) (v := ?vL35) rfl (by kernel_rfl) (by kernel_rfl) (by kernel_rfl) (fun _ _ _ h => h) (Or.inl ⟨by rfl, ?hyL35⟩) hHeld ?_
        case hyL35 => (intro w hSw; (try dsimp only at hSw); go_simp <;> with_reducible rfl)
        try simp only [Act.put, List.setIfInBounds_toArray, List.set_cons_zero, List.set_cons_succ]
        refine wpAnyH_take (i := 36) (oi := { dst := some 205, op := Op.move (Operand.tmp 21), type := 3, pos := "laws.go:333", after := #[{ on := 33, ground := Ground.guard }], guard := some (33, true) }) (v := ?vL36) rfl (by kernel_rfl) (by kernel_rfl) (by kernel_rfl) (fun _ _ _ h => h) (Or.inl ⟨by rfl, ?hyL36⟩) hHeld ?_
        case hyL36 => (intro w hSw; (try dsimp only at hSw); go_simp <;> with_reducible rfl)
        try simp only [Act.put, List.setIfInBounds_toArray, List.set_cons_zero, List.set_cons_succ]
        refine wpAnyH_take (i := 37) (oi := { dst := some 206, op := Op.indexAddr 24 (Operand.tmp 204) (Operand.tmp 205), type := 0, pos := "laws.go:333", after := #[{ on := 35, ground := Ground.data }, { on := 36, ground := Ground.data }, { on := 33, ground := Ground.guard }], guard := some (33, true) }) (v := ?vL37) rfl (by kernel_rfl) (by kernel_rfl) (by kernel_rfl) (fun _ _ _ h => h) (Or.inl ⟨by rfl, ?hyL37⟩) hHeld ?_
        case hyL37 => (intro w hSw; (try dsimp only at hSw); go_simp <;> with_reducible rfl)
        try simp only [Act.put, List.setIfInBounds_toArray, List.set_cons_zero, List.set_cons_succ]
        refine wpAnyH_take (i := 38) (oi := { dst := some 207, op := Op.load 29 (Operand.tmp 206), type := 29, pos := "laws.go:333", after := #[{ on := 37, ground := Ground.data }, { on := 33, ground := Ground.guard }], guard := some (33, true) }) (v := ?vL38) rfl (by kernel_rfl) (by kernel_rfl) (by kernel_rfl) (fun _ _ _ h => h) (Or.inl ⟨by rfl, ?hyL38⟩) hHeld ?_
        case hyL38 => (intro w hSw; (try dsimp only at hSw); go_simp <;> with_reducible rfl)
        try simp only [Act.put, List.setIfInBounds_toArray, List.set_cons_zero, List.set_cons_succ]
        refine wpAnyH_take (i := 39) (oi := { dst := some 208, op := Op.fieldAddr 26 (Operand.tmp 3) 1, type := 0, pos := "laws.go:333", after := #[{ on := 33, ground := Ground.guard }], guard := some (33, true) }) (v := ?vL39) rfl (by kernel_rfl) (by kernel_rfl) (by kernel_rfl) (fun _ _ _ h => h) (Or.inl ⟨by rfl, ?hyL39⟩) hHeld ?_
        case hyL39 => (intro w hSw; (try dsimp only at hSw); go_simp <;> with_reducible rfl)
        try simp only [Act.put, List.setIfInBounds_toArray, List.set_cons_zero, List.set_cons_succ]
        refine wpAnyH_take (i := 40) (oi := { dst := some 209, op := Op.load 24 (Operand.tmp 208), type := 24, pos := "laws.go:333", after := #[{ on := 39, ground := Ground.data }, { on := 33, ground := Ground.guard }], guard := some (33, true) }) (v := ?vL40) rfl (by kernel_rfl) (by kernel_rfl) (by kernel_rfl) (fun _ _ _ h => h) (Or.inl ⟨by rfl, ?hyL40⟩) hHeld ?_
        case hyL40 => (intro w hSw; (try dsimp only at hSw); go_simp <;> with_reducible rfl)
        try simp only [Act.put, List.setIfInBounds_toArray, List.set_cons_zero, List.set_cons_succ]
        refine wpAnyH_take (i := 41) (oi := { dst := some 210, op := Op.move (Operand.tmp 20), type := 3, pos := "laws.go:333", after := #[{ on := 33, ground := Ground.guard }], guard := some (33, true) }) (v := ?vL41) rfl (by kernel_rfl) (by kernel_rfl) (by kernel_rfl) (fun _ _ _ h => h) (Or.inl ⟨by rfl, ?hyL41⟩) hHeld ?_
        case hyL41 => (intro w hSw; (try dsimp only at hSw); go_simp <;> with_reducible rfl)
        try simp only [Act.put, List.setIfInBounds_toArray, List.set_cons_zero, List.set_cons_succ]
        refine wpAnyH_take (i := 42) (oi := { dst := some 211, op := Op.indexAddr 24 (Operand.tmp 209) (Operand.tmp 210), type := 0, pos := "laws.go:333", after := #[{ on := 40, ground := Ground.data }, { on := 41, ground := Ground.data }, { on := 33, ground := Ground.guard }], guard := some (33, true) }) (v := ?vL42) rfl (by kernel_rfl) (by kernel_rfl) (by kernel_rfl) (fun _ _ _ h => h) (Or.inl ⟨by rfl, ?hyL42⟩) hHeld ?_
        case hyL42 => (intro w hSw; (try dsimp only at hSw); go_simp <;> with_reducible rfl)
        try simp only [Act.put, List.setIfInBounds_toArray, List.set_cons_zero, List.set_cons_succ]
        refine wpAnyH_take (i := 43) (oi := { dst := some 212, op := Op.load 29 (Operand.tmp 211), type := 29, pos := "laws.go:333", after := #[{ on := 42, ground := Ground.data }, { on := 33, ground := Ground.guard }], guard := some (33, true) }) (v := ?vL43) rfl (by kernel_rfl) (by kernel_rfl) (by kernel_rfl) (fun _ _ _ h => h) (Or.inl ⟨by rfl, ?hyL43⟩) hHeld ?_
        case hyL43 => (intro w hSw; (try dsimp only at hSw); go_simp <;> with_reducible rfl)
        try simp only [Act.put, List.setIfInBounds_toArray, List.set_cons_zero, List.set_cons_succ]
        refine wpAnyH_take (i := 44) (oi := { dst := some 213, op := Op.load 29 (Operand.tmp 4), type := 29, pos := "laws.go:333", after := #[{ on := 33, ground := Ground.guard }], guard := some (33, true) }) (v := ?vL44) rfl (by kernel_rfl) (by kernel_rfl) (by kernel_rfl) (fun _ _ _ h => h) (Or.inl ⟨by rfl, ?hyL44⟩) hHeld ?_
        case hyL44 => (intro w hSw; (try dsimp only at hSw); go_simp <;> with_reducible rfl)
        try simp only [Act.put, List.setIfInBounds_toArray, List.set_cons_zero, List.set_cons_succ]
        refine wpAnyH_ready (rs := [45]) (by kernel_rfl) (by simp) ?_
        refine AllReadyH.cons (o := { dst := some 214, op := Op.call { callee := Callee.value (Operand.func 24), args := #[Operand.tmp 212, Operand.tmp 213], argTypes := #[29, 29] }, type := 29, pos := "laws.go:333", after := #[{ on := 43, ground := Ground.data }, { on := 44, ground := Ground.data }, { on := 33, ground := Ground.chain }, { on := 33, ground := Ground.guard }], guard := some (33, true) }) rfl (fun K hK => ?_) AllReadyH.nil
        go_simp
        refine (MG.out _ hHeld.1).mono ?_
        rintro r wy ⟨⟨gM, cM, rfl, ho⟩, hy⟩
        have HK1 : Hid (Reads wy (some ⟨gM, 0, none⟩) x.l) := own_reads ho
        have hz : Below wr.heap.size wr wy := grow_on hHeld.1 hy
        clear hHeld hy ho
        refine hK.out _ _ (HS.out _ hz) (fun hHeld => ?_)
        clear hK K hz
        try simp only [Act.put, List.setIfInBounds_toArray, List.set_cons_zero, List.set_cons_succ]
        refine wpAnyH_ready (rs := [46]) (by kernel_rfl) (by simp) ?_
        refine AllReadyH.cons (o := { dst := some 215, op := Op.call { callee := Callee.value (Operand.func 23), args := #[Operand.tmp 207, Operand.tmp 214], argTypes := #[29, 29] }, type := 4, pos := "laws.go:333", after := #[{ on := 38, ground := Ground.data }, { on := 45, ground := Ground.data }, { on := 45, ground := Ground.chain }, { on := 33, ground := Ground.guard }], guard := some (33, true) }) rfl (fun K hK => ?_) AllReadyH.nil
        go_simp
        refine (SM.out _ _ _ hHeld.1 HK1.out).mono ?_
        rintro r wv ⟨rfl, hy⟩
        have hz : Below wr.heap.size wr wv := grow_on hHeld.1 hy
        clear hHeld hy HK1
        refine hK.out _ _ (HS.out _ hz) (fun hHeld => ?_)
        clear hK K hz
        try simp only [Act.put, List.setIfInBounds_toArray, List.set_cons_zero, List.set_cons_succ]
        refine wpAnyH_take (i := 47) (oi := { dst := some 216, op := Op.pick (Operand.tmp 202) (Operand.tmp 215) (Operand.const (Value.bool false)), type := 4, pos := "laws.go:333", after := #[{ on := 33, ground := Ground.data }, { on := 46, ground := Ground.data }, { on := 21, ground := Ground.guard }], guard := some (21, false) }) (v := ?vL47) rfl (by kernel_rfl) (by kernel_rfl) (by kernel_rfl) (fun _ _ _ h => h) (Or.inl ⟨by rfl, ?hyL47⟩) hHeld ?_
        case hyL47 => (intro w hSw; (try dsimp only at hSw); go_simp <;> with_reducible rfl)
        try simp only [Act.put, List.setIfInBounds_toArray, List.set_cons_zero, List.set_cons_succ]
        refine wpAnyH_take (i := 48) (oi := { dst := some 217, op := Op.pick (Operand.tmp 190) (Operand.const (Value.bool true)) (Operand.tmp 216), type := 4, pos := "laws.go:333", after := #[{ on := 21, ground := Ground.data }, { on := 47, ground := Ground.data }], guard := none }) (v := ?vL48) rfl (by kernel_rfl) (by kernel_rfl) (by kernel_rfl) (fun _ _ _ h => h) (Or.inl ⟨by rfl, ?hyL48⟩) hHeld ?_
        case hyL48 => (intro w hSw; (try dsimp only at hSw); go_simp <;> with_reducible rfl)
        try simp only [Act.put, List.setIfInBounds_toArray, List.set_cons_zero, List.set_cons_succ]
        refine wpAnyH_take (i := 49) (oi := { dst := some 2, op := Op.assign (Operand.tmp 217), type := 4, pos := "laws.go:333", after := #[{ on := 48, ground := Ground.data }, { on := 46, ground := Ground.chain }, { on := 0, ground := Ground.phase }, { on := 1, ground := Ground.phase }, { on := 2, ground := Ground.phase }, { on := 3, ground := Ground.phase }, { on := 4, ground := Ground.phase }, { on := 5, ground := Ground.phase }, { on := 6, ground := Ground.phase }, { on := 7, ground := Ground.phase }, { on := 8, ground := Ground.phase }, { on := 9, ground := Ground.phase }, { on := 10, ground := Ground.phase }, { on := 11, ground := Ground.phase }, { on := 12, ground := Ground.phase }, { on := 13, ground := Ground.phase }, { on := 14, ground := Ground.phase }, { on := 15, ground := Ground.phase }, { on := 16, ground := Ground.phase }, { on := 17, ground := Ground.phase }, { on := 18, ground := Ground.phase }, { on := 19, ground := Ground.phase }, { on := 20, ground := Ground.phase }, { on := 21, ground := Ground.phase }, { on := 22, ground := Ground.phase }, { on := 23, ground := Ground.phase }, { on := 24, ground := Ground.phase }, { on := 25, ground := Ground.phase }, { on := 26, ground := Ground.phase }, { on := 27, ground := Ground.phase }, { on := 28, ground := Ground.phase }, { on := 29, ground := Ground.phase }, { on := 30, ground := Ground.phase }, { on := 31, ground := Ground.phase }, { on := 32, ground := Ground.phase }, { on := 33, ground := Ground.phase }, { on := 34, ground := Ground.phase }, { on := 35, ground := Ground.phase }, { on := 36, ground := Ground.phase }, { on := 37, ground := Ground.phase }, { on := 38, ground := Ground.phase }, { on := 39, ground := Ground.phase }, { on := 40, ground := Ground.phase }, { on := 41, ground := Ground.phase }, { on := 42, ground := Ground.phase }, { on := 43, ground := Ground.phase }, { on := 44, ground := Ground.phase }, { on := 45, ground := Ground.phase }, { on := 46, ground := Ground.phase }, { on := 47, ground := Ground.phase }, { on := 48, ground := Ground.phase }], guard := none }) (v := ?vL49) rfl (by kernel_rfl) (by kernel_rfl) (by kernel_rfl) (fun _ _ _ h => h) (Or.inl ⟨by rfl, ?hyL49⟩) hHeld ?_
        case hyL49 => (intro w hSw; (try dsimp only at hSw); go_simp <;> with_reducible rfl)
        try simp only [Act.put, List.setIfInBounds_toArray, List.set_cons_zero, List.set_cons_succ]
        refine wpAnyH_done (by kernel_rfl) ?_ _
        go_wp2
        go_ret
        exact ⟨rfl, grow_on HBw.out hHeld.1⟩

theorem walk (a : Option Addr) (len cap : Nat) (zs : List Int) (w : World) (h : IsRow .u8 w a len cap zs) :
    Calls Try.prog 3 #[.slice a len cap] w fun e w' => e = .returned (.bool true) ∧ Below w.heap.size w w' := by
  obtain ⟨hl, hb⟩ := bytes_of h
  exact core a len cap w hl hb
theorem own : ownKnob Try.prog.godebug = none := by kernel_rfl
theorem laidOut : laidOutB Try.prog = true := by kernel_rfl
set_option maxRecDepth 100000 in
theorem lifted (os : Os) (started : os.Started) (H : Type) (enc : TypeId × Value → H) :
    ReturnsInHanded {} Try.checked os 3 .any (Rows.fnChainsSpec.pre6 enc Try.prog Try.f3 Rows.fnChainsRow.domain false) (Rows.fnChainsSpec.post enc Try.prog Try.f3 false true false false) := by
  refine returnsInHanded_of_change (C := Try.checked) own started (by kernel_rfl) Try.func3
    (ChangeSpec.witness6 (enc := enc) (C := Try.checked) false ⟨#[], #[.slice none 0 0], []⟩ 8 (by kernel_rfl) (by kernel_rfl) (by kernel_rfl) (by kernel_rfl)) ?_
  intro W base args ds gs before hval0 hW hcnd _
  have hval : ∀ (j : Nat) t v, Try.f3.params[j]? = some t → args[j]? = some v → Value.okWide Try.prog W .any base t v := hval0
  have hW' := hW
  obtain ⟨p, q, hA0, hV, rfl, hfz, hnd⟩ := hW
  have hA : DataW.TrodAll enc Try.prog W 0 (fun _ => true) true Try.f3.params.toList args.toList ds p := hA0
  rw [Try.params3] at hA hval
  obtain ⟨v0, vs0, d0, ds0, p0, q0, hargs, rfl, rfl, h0, r0⟩ := trodAll_cons hA
  obtain ⟨rfl, rfl, rfl⟩ := trodAll_nil r0
  obtain rfl : args = #[v0] := by cases args; simp_all
  obtain ⟨rfl, rfl⟩ := trodVars_none hV
  obtain ⟨a0, len0, cap0, rfl⟩ := okWide_slice Try.underlying22 (hval 0 22 v0 rfl rfl)
  have k0 := h0
  have lt0 : ∀ x ∈ p0, x.block < W.heap.size := by obtain ⟨m, hm⟩ := k0; exact DataW.trod_lt m _ _ _ hm
  obtain ⟨z0, w0⟩ : ∃ zs, IsRow .u8 W a0 len0 cap0 zs := by
    obtain ⟨fuel, hf⟩ := h0
    rcases open_ints Try.underlying22 Try.underlying5 (by kernel_rfl) hf with ⟨hcs, _⟩ | ⟨x, l, c, zs, hcs, _, hl, hm, hz, _, hcell, hwz⟩
    · simp [Value.cells] at hcs
      obtain ⟨rfl, rfl, rfl⟩ := hcs
      exact ⟨[], .inl ⟨rfl, rfl, rfl, rfl⟩⟩
    · simp [Value.cells] at hcs
      obtain ⟨rfl, rfl, rfl⟩ := hcs
      exact ⟨zs, .inr ⟨_, rfl, hl, hm, by simpa using hz, hcell, hwz⟩⟩
  clear hA0 hval0
  refine (walk a0 len0 cap0 z0 W w0).mono fun e W' ⟨he, bel⟩ => ?_
  subst he
  exact ⟨_, rfl, _, _, _, [], _, [], hW', trodAll_mk1 (shut_bool Try.underlying4 _), (trodAll_cons_mk (Below.trod laidOut (by kernel_rfl) (of_decide_eq_true (by kernel_rfl)) k0 bel lt0) trodAll_mk0), rfl, bel.frame _, fun h => by cases h⟩

theorem over : Rows.fnChainsRow.holds Try.pinned (OpenSpec.ofChange Rows.fnChainsSpec) :=
  OpenClaim.holds_of_wide 3 Try.f3 rfl rfl rfl rfl rfl rfl rfl ⟨rfl, rfl, rfl, rfl, rfl⟩ rfl rfl rfl rfl rfl (by kernel_rfl) Try.func3 (by kernel_rfl)
    (of_decide_eq_true (by kernel_rfl)) (by unfold Func.isWrapper; first | (rw [if_pos (by decide +kernel)]; kernel_rfl) | (rw [if_neg (by decide +kernel)]; exact ⟨rfl, rfl⟩))
    (fun os started H enc _ => lifted os started H enc)

end Go.Proofs.Ytcopckbpflmmeaa.FnChains
namespace Go.Proofs.Ytcopckbpflmmeaa
theorem fnChains_holds : Rows.FnChainsSaid := FnChains.over
#print axioms fnChains_holds
end Go.Proofs.Ytcopckbpflmmeaa
