/-
  PROVED: at every two alarms impl.Merge answers as spec.Merge, leaves them as they were, keeps nothing of them, and its answer lies in memory of its own, so the law laws.FnExactMerge returns true, whatever its arguments. No condition.
-/
import Derived.Test.YtinegehejinmiabRows
import Derived.WalkKit
import Derived.ProofKit
import Derived.OpenShut
import Derived.ShutString
import Derived.ChangeOld
import Derived.Below
import Derived.WalkLawsBesides
import Derived.WalkSpells
import Derived.Test.YtinegehejinmiabAlmM
import Derived.Test.YtinegehejinmiabAlmK
import Derived.Deep.RegionHeld3
import Derived.Deep.DeepCutAuto
namespace Go.Proofs.Ytinegehejinmiab.FnExactMerge
open Go.ChangeShapes Go.WideShapes Go.ChangeAt Go.RowKit
open Go.ChangeMaps (open_string shut_string)
set_option linter.unusedVariables false

open Go.Proofs.Ytinegehejinmiab.Labs Go.Proofs.Ytinegehejinmiab.LabS Go.Proofs.Ytinegehejinmiab.LabT Go.Proofs.Ytinegehejinmiab.Over Go.Proofs.Ytinegehejinmiab.Blk Go.Proofs.Ytinegehejinmiab.Alm Go.Proofs.Ytinegehejinmiab.AlmS Go.Proofs.Ytinegehejinmiab.AlmM Go.Proofs.Ytinegehejinmiab.AlmK Go.Proofs.Ytinegehejinmiab.Mark

theorem bel_alloc {z w : World} (h : Below z.heap.size z w) (o : Obj) : Below z.heap.size z (w.alloc o) := h.alloc h.size o
set_option maxRecDepth 100000 in
set_option maxHeartbeats 40000000 in
theorem walk (a0 : Option Addr) (cap0 : Nat) (l0 : List Lab) (s0 e0 : Int) (n0 : ByteArray) (a1 : Option Addr) (cap1 : Nat) (l1 : List Lab) (s1 e1 : Int) (n1 : ByteArray) (w : World) (g0 : AlIn w a0 l0 s0 e0 n0) (g1 : AlIn w a1 l1 s1 e1 n1) :
    Calls Try.prog 6 #[.agg #[.slice a0 l0.length cap0, .int .i64 s0, .int .i64 e0, .string n0], .agg #[.slice a1 l1.length cap1, .int .i64 s1, .int .i64 e1, .string n1]] w fun e w' => e = .returned (.bool true) ∧ Below w.heap.size w w' := by
  have R0 : Hid (Reads w a0 l0) := g0.reads
  have M0 : Hid (l0.length ≤ maxLen) := g0.len
  have G0 : Hid (AlIn w a0 l0 s0 e0 n0) := g0
  clear g0
  have R1 : Hid (Reads w a1 l1) := g1.reads
  have M1 : Hid (l1.length ≤ maxLen) := g1.len
  have G1 : Hid (AlIn w a1 l1 s1 e1 n1) := g1
  clear g1
  have B0 : Hid (Below w.heap.size w w) := Below.refl _ _
  go_enter Try.func6, Try.ntmps6
  go_wp2_with fail
  refine (Go.Proofs.Ytinegehejinmiab.Alm.sz_any a0 cap0 l0 s0 e0 n0 1048576 _ (G0.out.below (grow_on B0.out (Go.Joins.below_alloc2 w _ _))) (by omega) (by omega)).mono ?_
  rintro e w1 ⟨⟨k0, rfl, p0, hn⟩, hb⟩
  have P0_1 : Hid (Blk w1 w.heap.size #[.slice a0 l0.length cap0, .int .i64 s0, .int .i64 e0, .string n0] 24) := ((Blk.new _ _ _).alloc _).grow hb
  have U_P0 : Hid (w.heap.size ≤ w.heap.size ∧ w.heap.size < w1.heap.size) := ⟨by omega, P0_1.out.lt⟩
  have P1_1 : Hid (Blk w1 (w.heap.size + 1) #[.slice a1 l1.length cap1, .int .i64 s1, .int .i64 e1, .string n1] 24) := (Blk.new_at (by simp)).grow hb
  have U_P1 : Hid (w.heap.size ≤ (w.heap.size + 1) ∧ (w.heap.size + 1) < w1.heap.size) := ⟨by omega, P1_1.out.lt⟩
  replace hb := grow_on (Go.Joins.below_alloc2 w _ _) hb
  have B1 : Hid (Below w.heap.size w w1) := grow_on B0.out hb
  have Z1 : Hid (w.heap.size ≤ w1.heap.size) := hb.size
  clear hb
  by_cases g0 : k0 < 0
  · clear hn
    go_wp2
    go_ret
    exact ⟨rfl, B1.out⟩
  have K0 : Hid (l0.length ≤ 1048576) := by have := hn (by omega); show l0.length ≤ 1048576; omega
  clear hn
  have cP00 : w1.cell? ⟨w.heap.size, 0, none⟩ = some (.slice a0 l0.length cap0) := (P0_1.out).cell 0
  have cP01 : w1.cell? ⟨w.heap.size, 1, none⟩ = some (.int .i64 s0) := (P0_1.out).cell 1
  have cP02 : w1.cell? ⟨w.heap.size, 2, none⟩ = some (.int .i64 e0) := (P0_1.out).cell 2
  have cP03 : w1.cell? ⟨w.heap.size, 3, none⟩ = some (.string n0) := (P0_1.out).cell 3
  have cP10 : w1.cell? ⟨(w.heap.size + 1), 0, none⟩ = some (.slice a1 l1.length cap1) := (P1_1.out).cell 0
  have cP11 : w1.cell? ⟨(w.heap.size + 1), 1, none⟩ = some (.int .i64 s1) := (P1_1.out).cell 1
  have cP12 : w1.cell? ⟨(w.heap.size + 1), 2, none⟩ = some (.int .i64 e1) := (P1_1.out).cell 2
  have cP13 : w1.cell? ⟨(w.heap.size + 1), 3, none⟩ = some (.string n1) := (P1_1.out).cell 3
  go_wp2_with fail
  refine (Go.Proofs.Ytinegehejinmiab.Alm.sz_any a1 cap1 l1 s1 e1 n1 k0 _ (G1.out.below B1.out) (by omega) (by omega)).mono ?_
  rintro e w2 ⟨⟨k1, rfl, p1, hn⟩, hb⟩
  have B2 : Hid (Below w.heap.size w w2) := grow_on B1.out hb
  have Z2 : Hid (w1.heap.size ≤ w2.heap.size) := hb.size
  have P0_2 : Hid (Blk w2 w.heap.size #[.slice a0 l0.length cap0, .int .i64 s0, .int .i64 e0, .string n0] 24) := P0_1.out.grow hb
  have P1_2 : Hid (Blk w2 (w.heap.size + 1) #[.slice a1 l1.length cap1, .int .i64 s1, .int .i64 e1, .string n1] 24) := P1_1.out.grow hb
  clear hb cP00 cP01 cP02 cP03 cP10 cP11 cP12 cP13
  by_cases g1 : k1 < 0
  · clear hn
    go_wp2
    go_ret
    exact ⟨rfl, B2.out⟩
  have K1 : Hid (l1.length ≤ 1048576) := by have := hn (by omega); show l1.length ≤ 1048576; omega
  clear hn
  have cP00 : w2.cell? ⟨w.heap.size, 0, none⟩ = some (.slice a0 l0.length cap0) := (P0_2.out).cell 0
  have cP01 : w2.cell? ⟨w.heap.size, 1, none⟩ = some (.int .i64 s0) := (P0_2.out).cell 1
  have cP02 : w2.cell? ⟨w.heap.size, 2, none⟩ = some (.int .i64 e0) := (P0_2.out).cell 2
  have cP03 : w2.cell? ⟨w.heap.size, 3, none⟩ = some (.string n0) := (P0_2.out).cell 3
  have cP10 : w2.cell? ⟨(w.heap.size + 1), 0, none⟩ = some (.slice a1 l1.length cap1) := (P1_2.out).cell 0
  have cP11 : w2.cell? ⟨(w.heap.size + 1), 1, none⟩ = some (.int .i64 s1) := (P1_2.out).cell 1
  have cP12 : w2.cell? ⟨(w.heap.size + 1), 2, none⟩ = some (.int .i64 e1) := (P1_2.out).cell 2
  have cP13 : w2.cell? ⟨(w.heap.size + 1), 3, none⟩ = some (.string n1) := (P1_2.out).cell 3
  go_upto_region 8 with fail
  have kz : Below w2.heap.size w2 w2.drew := (Below.refl _ _).drew
  have kP0 := P0_2.out.lt
  have kP1 := P1_2.out.lt
  have HS : Hid (∀ w', Below w2.heap.size w2 w' → Below w2.heap.size w2 w' ∧ w'.cell? ⟨w.heap.size, 0, none⟩ = some (.slice a0 l0.length cap0) ∧ w'.cell? ⟨w.heap.size, 1, none⟩ = some (.int .i64 s0) ∧ w'.cell? ⟨w.heap.size, 2, none⟩ = some (.int .i64 e0) ∧ w'.cell? ⟨w.heap.size, 3, none⟩ = some (.string n0) ∧ w'.cell? ⟨(w.heap.size + 1), 0, none⟩ = some (.slice a1 l1.length cap1) ∧ w'.cell? ⟨(w.heap.size + 1), 1, none⟩ = some (.int .i64 s1) ∧ w'.cell? ⟨(w.heap.size + 1), 2, none⟩ = some (.int .i64 e1) ∧ w'.cell? ⟨(w.heap.size + 1), 3, none⟩ = some (.string n1)) := fun w' h => ⟨h, (h.cell kP0).trans cP00, (h.cell kP0).trans cP01, (h.cell kP0).trans cP02, (h.cell kP0).trans cP03, (h.cell kP1).trans cP10, (h.cell kP1).trans cP11, (h.cell kP1).trans cP12, (h.cell kP1).trans cP13⟩
  go_cut [6] (fun s6 wx => ∃ (N M c : Nat) (cs : Array Value), s6 = .pointer (some ⟨N, 0, none⟩) ∧ Blk wx N #[.slice (some ⟨M, 0, none⟩) l1.length c, .int .i64 (startB s0 e0 s1 e1), .int .i64 e1, .string n1] 29 ∧ (w2.heap.size ≤ N ∧ w2.heap.size ≤ M ∧ N ≠ M) ∧ Blk wx M cs 48 ∧ l1.length * 2 ≤ cs.size ∧ Held cs l1 l1.length ∧ Below w2.heap.size w2 wx)
  case first =>
    go_region_held3 (fun w' => Below w2.heap.size w2 w' ∧ w'.cell? ⟨w.heap.size, 0, none⟩ = some (.slice a0 l0.length cap0) ∧ w'.cell? ⟨w.heap.size, 1, none⟩ = some (.int .i64 s0) ∧ w'.cell? ⟨w.heap.size, 2, none⟩ = some (.int .i64 e0) ∧ w'.cell? ⟨w.heap.size, 3, none⟩ = some (.string n0) ∧ w'.cell? ⟨(w.heap.size + 1), 0, none⟩ = some (.slice a1 l1.length cap1) ∧ w'.cell? ⟨(w.heap.size + 1), 1, none⟩ = some (.int .i64 s1) ∧ w'.cell? ⟨(w.heap.size + 1), 2, none⟩ = some (.int .i64 e1) ∧ w'.cell? ⟨(w.heap.size + 1), 3, none⟩ = some (.string n1)) (first | with_reducible exact HS.out _ kz | with_reducible exact HS.out _ (bel_alloc kz _) | with_reducible exact HS.out _ (Below.drew (bel_alloc (Below.refl _ _) _)) | with_reducible exact HS.out _ (bel_alloc (Below.refl _ _) _) | with_reducible exact HS.out _ hz0 | with_reducible exact HS.out _ hz1 | with_reducible exact HS.out _ hz2 | with_reducible exact HS.out _ (bel_alloc hz0 _) | with_reducible exact HS.out _ (bel_alloc hz1 _) | with_reducible exact HS.out _ (bel_alloc hz2 _) | with_reducible exact HS.out _ (Alm.set4 hz2 (Nat.le_refl _) _ _ _ _) | with_reducible exact HS.out _ (Alm.set4 hz2 hz0.size _ _ _ _) | with_reducible exact HS.out _ (Alm.set4 hz2 hz1.size _ _ _ _) | (go_keep; done)) (first | (go_at_call 9; go_split_ands; with_reducible refine (Go.Proofs.Ytinegehejinmiab.Alm.to_any a0 cap0 l0 s0 e0 n0 _ (R0.out.below (grow_on B2.out (by assumption))) K0.out).mono ?_; rintro e wy0 ⟨⟨T0, cs0, rfl, -, hk0, -, hh0⟩, hy0⟩; (have hz0 : Below w2.heap.size w2 wy0 := grow_on (by assumption) hy0); (first | with_reducible have nb0 := Blk.grow (Blk.new _ _ _) hy0 | with_reducible have nb0 := Blk.grow (Blk.drew (Blk.new _ _ _)) hy0 | skip)) | (go_at_call 9; go_split_ands; with_reducible refine (Go.Proofs.Ytinegehejinmiab.Alm.to_any a1 cap1 l1 s1 e1 n1 _ (R1.out.below (grow_on B2.out (by assumption))) K1.out).mono ?_; rintro e wy1 ⟨⟨T1, cs1, rfl, -, hk1, -, hh1⟩, hy1⟩; (have hz1 : Below w2.heap.size w2 wy1 := grow_on (by assumption) hy1); (first | with_reducible have nb1 := Blk.grow (Blk.new _ _ _) hy1 | with_reducible have nb1 := Blk.grow (Blk.drew (Blk.new _ _ _)) hy1 | with_reducible have nb1 := Blk.grow nb0 hy1 | skip)) | (go_at_call 16; go_split_ands; refine (specMerge_any _ _ _ s0 e0 n0 _ _ _ l1 s1 e1 n1 _ (by first | exact held_reads hk1 hh1 | exact (held_reads hk1 hh1).below (bel_alloc (Below.refl _ _) _)) K1.out).mono ?_; rintro e w3 ⟨⟨WM, Wc, rfl, hOM, Wcs, hO1, hO2, hO3⟩, hy2⟩; (have hz2 : Below w2.heap.size w2 w3 := grow_on (by assumption) hy2); (first | with_reducible have nb2 := Blk.grow (Blk.new _ _ _) hy2 | with_reducible have nb2 := Blk.grow (Blk.drew (Blk.new _ _ _)) hy2 | with_reducible have nb2 := Blk.grow nb1 hy2 | skip); (try (have nc0 : w3.cell? ⟨_, 0, none⟩ = some (.slice none 0 0) := nb2.cell 0; have nc1 : w3.cell? ⟨_, 1, none⟩ = some (.int .i64 0) := nb2.cell 1; have nc2 : w3.cell? ⟨_, 2, none⟩ = some (.int .i64 0) := nb2.cell 2; have nc3 : w3.cell? ⟨_, 3, none⟩ = some (.string ⟨#[]⟩) := nb2.cell 3; have nf0 := nb2.frozen 0; have nf1 := nb2.frozen 1; have nf2 := nb2.frozen 2; have nf3 := nb2.frozen 3))))
    all_goals (go_wp2_with fail)
    all_goals go_meet
    all_goals (have q0 := hz0.size; have q1 := hz1.size; have q2 := hz2.size; have q3 := hO1.lt; have q6 := hy1.size; (try simp at q6); (try have q4 := nb0.lt); (try have q5 := nb1.lt); (try simp at hOM); refine ⟨_, WM, Wc, Wcs, rfl, ?_, ⟨?_, ?_, ?_⟩, ?_, hO2, hO3, ?_⟩; (· with_reducible first | exact Blk.new _ _ _ | exact Alm.put4 nb2 _ _ _ _); (· omega); (· omega); (· omega); (· with_reducible first | exact hO1.alloc _ | exact Alm.blk4 hO1 (by omega) _ _ _ _); (· with_reducible first | exact bel_alloc hz2 _ | exact Alm.set4 hz2 (by omega) _ _ _ _))
  case rest =>
  obtain ⟨WN, WM, Wc, Wcs, rfl, hW1, hW2, hW3, hW4, hW5, hb⟩ := hcut
  obtain ⟨w3, hwc⟩ : ∃ x, x = wc := ⟨_, rfl⟩
  subst hwc
  have W0_3 : Hid (Blk w3 WN #[.slice (some ⟨WM, 0, none⟩) l1.length Wc, .int .i64 (startB s0 e0 s1 e1), .int .i64 e1, .string n1] 29) := hW1
  have Wk_3 : Hid (Blk w3 WM Wcs 48) := hW3
  have Ws : Hid (l1.length * 2 ≤ Wcs.size) := hW4
  have Wh : Hid (Held Wcs l1 l1.length) := hW5
  have U_W : Hid (w2.heap.size ≤ WN ∧ w2.heap.size ≤ WM ∧ WN ≠ WM ∧ WN < w3.heap.size ∧ WM < w3.heap.size) := ⟨hW2.1, hW2.2.1, hW2.2.2, hW1.lt, hW3.lt⟩
  have B3 : Hid (Below w.heap.size w w3) := grow_on B2.out hb
  have Z3 : Hid (w2.heap.size ≤ w3.heap.size) := hb.size
  have P0_3 : Hid (Blk w3 w.heap.size #[.slice a0 l0.length cap0, .int .i64 s0, .int .i64 e0, .string n0] 24) := P0_2.out.grow hb
  have P1_3 : Hid (Blk w3 (w.heap.size + 1) #[.slice a1 l1.length cap1, .int .i64 s1, .int .i64 e1, .string n1] 24) := P1_2.out.grow hb
  clear hb kz HS hW1 hW2 hW3 hW4 hW5 kP0 kP1 cP00 cP01 cP02 cP03 cP10 cP11 cP12 cP13
  have cP00 : w3.cell? ⟨w.heap.size, 0, none⟩ = some (.slice a0 l0.length cap0) := (P0_3.out).cell 0
  have cP01 : w3.cell? ⟨w.heap.size, 1, none⟩ = some (.int .i64 s0) := (P0_3.out).cell 1
  have cP02 : w3.cell? ⟨w.heap.size, 2, none⟩ = some (.int .i64 e0) := (P0_3.out).cell 2
  have cP03 : w3.cell? ⟨w.heap.size, 3, none⟩ = some (.string n0) := (P0_3.out).cell 3
  have cP10 : w3.cell? ⟨(w.heap.size + 1), 0, none⟩ = some (.slice a1 l1.length cap1) := (P1_3.out).cell 0
  have cP11 : w3.cell? ⟨(w.heap.size + 1), 1, none⟩ = some (.int .i64 s1) := (P1_3.out).cell 1
  have cP12 : w3.cell? ⟨(w.heap.size + 1), 2, none⟩ = some (.int .i64 e1) := (P1_3.out).cell 2
  have cP13 : w3.cell? ⟨(w.heap.size + 1), 3, none⟩ = some (.string n1) := (P1_3.out).cell 3
  have cW00 : w3.cell? ⟨WN, 0, none⟩ = some (.slice (some ⟨WM, 0, none⟩) l1.length Wc) := (W0_3.out).cell 0
  have cW01 : w3.cell? ⟨WN, 1, none⟩ = some (.int .i64 (startB s0 e0 s1 e1)) := (W0_3.out).cell 1
  have cW02 : w3.cell? ⟨WN, 2, none⟩ = some (.int .i64 e1) := (W0_3.out).cell 2
  have cW03 : w3.cell? ⟨WN, 3, none⟩ = some (.string n1) := (W0_3.out).cell 3
  go_wp2_with fail
  refine (Go.Proofs.Ytinegehejinmiab.Alm.to_any a0 cap0 l0 s0 e0 n0 _ (R0.out.below B3.out) K0.out).mono ?_
  rintro e w4 ⟨⟨X0M, X0cs, rfl, hXM, hk, hs, hh⟩, hb⟩
  have X0k_4 : Hid (Blk w4 X0M X0cs 48) := hk
  have X0s : Hid (X0cs.size = l0.length * 2) := hs
  have X0h : Hid (Held X0cs l0 l0.length) := hh
  have U_X0k : Hid (w3.heap.size ≤ X0M ∧ X0M < w4.heap.size) := ⟨hXM, hk.lt⟩
  clear hk hs hh hXM
  have B4 : Hid (Below w.heap.size w w4) := grow_on B3.out hb
  have Z4 : Hid (w3.heap.size ≤ w4.heap.size) := hb.size
  have P0_4 : Hid (Blk w4 w.heap.size #[.slice a0 l0.length cap0, .int .i64 s0, .int .i64 e0, .string n0] 24) := P0_3.out.grow hb
  have P1_4 : Hid (Blk w4 (w.heap.size + 1) #[.slice a1 l1.length cap1, .int .i64 s1, .int .i64 e1, .string n1] 24) := P1_3.out.grow hb
  have W0_4 : Hid (Blk w4 WN #[.slice (some ⟨WM, 0, none⟩) l1.length Wc, .int .i64 (startB s0 e0 s1 e1), .int .i64 e1, .string n1] 29) := W0_3.out.grow hb
  have Wk_4 : Hid (Blk w4 WM Wcs 48) := Wk_3.out.grow hb
  clear hb cP00 cP01 cP02 cP03 cP10 cP11 cP12 cP13 cW00 cW01 cW02 cW03
  have cP00 : (w4.alloc (.cells #[.slice (some ⟨X0M, 0, none⟩) l0.length l0.length, .int .i64 s0, .int .i64 e0, .string n0] 29)).cell? ⟨w.heap.size, 0, none⟩ = some (.slice a0 l0.length cap0) := (P0_4.out.alloc _).cell 0
  have cP01 : (w4.alloc (.cells #[.slice (some ⟨X0M, 0, none⟩) l0.length l0.length, .int .i64 s0, .int .i64 e0, .string n0] 29)).cell? ⟨w.heap.size, 1, none⟩ = some (.int .i64 s0) := (P0_4.out.alloc _).cell 1
  have cP02 : (w4.alloc (.cells #[.slice (some ⟨X0M, 0, none⟩) l0.length l0.length, .int .i64 s0, .int .i64 e0, .string n0] 29)).cell? ⟨w.heap.size, 2, none⟩ = some (.int .i64 e0) := (P0_4.out.alloc _).cell 2
  have cP03 : (w4.alloc (.cells #[.slice (some ⟨X0M, 0, none⟩) l0.length l0.length, .int .i64 s0, .int .i64 e0, .string n0] 29)).cell? ⟨w.heap.size, 3, none⟩ = some (.string n0) := (P0_4.out.alloc _).cell 3
  have cP10 : (w4.alloc (.cells #[.slice (some ⟨X0M, 0, none⟩) l0.length l0.length, .int .i64 s0, .int .i64 e0, .string n0] 29)).cell? ⟨(w.heap.size + 1), 0, none⟩ = some (.slice a1 l1.length cap1) := (P1_4.out.alloc _).cell 0
  have cP11 : (w4.alloc (.cells #[.slice (some ⟨X0M, 0, none⟩) l0.length l0.length, .int .i64 s0, .int .i64 e0, .string n0] 29)).cell? ⟨(w.heap.size + 1), 1, none⟩ = some (.int .i64 s1) := (P1_4.out.alloc _).cell 1
  have cP12 : (w4.alloc (.cells #[.slice (some ⟨X0M, 0, none⟩) l0.length l0.length, .int .i64 s0, .int .i64 e0, .string n0] 29)).cell? ⟨(w.heap.size + 1), 2, none⟩ = some (.int .i64 e1) := (P1_4.out.alloc _).cell 2
  have cP13 : (w4.alloc (.cells #[.slice (some ⟨X0M, 0, none⟩) l0.length l0.length, .int .i64 s0, .int .i64 e0, .string n0] 29)).cell? ⟨(w.heap.size + 1), 3, none⟩ = some (.string n1) := (P1_4.out.alloc _).cell 3
  have cW00 : (w4.alloc (.cells #[.slice (some ⟨X0M, 0, none⟩) l0.length l0.length, .int .i64 s0, .int .i64 e0, .string n0] 29)).cell? ⟨WN, 0, none⟩ = some (.slice (some ⟨WM, 0, none⟩) l1.length Wc) := (W0_4.out.alloc _).cell 0
  have cW01 : (w4.alloc (.cells #[.slice (some ⟨X0M, 0, none⟩) l0.length l0.length, .int .i64 s0, .int .i64 e0, .string n0] 29)).cell? ⟨WN, 1, none⟩ = some (.int .i64 (startB s0 e0 s1 e1)) := (W0_4.out.alloc _).cell 1
  have cW02 : (w4.alloc (.cells #[.slice (some ⟨X0M, 0, none⟩) l0.length l0.length, .int .i64 s0, .int .i64 e0, .string n0] 29)).cell? ⟨WN, 2, none⟩ = some (.int .i64 e1) := (W0_4.out.alloc _).cell 2
  have cW03 : (w4.alloc (.cells #[.slice (some ⟨X0M, 0, none⟩) l0.length l0.length, .int .i64 s0, .int .i64 e0, .string n0] 29)).cell? ⟨WN, 3, none⟩ = some (.string n1) := (W0_4.out.alloc _).cell 3
  go_wp2_with fail
  refine (Go.Proofs.Ytinegehejinmiab.Alm.to_any a1 cap1 l1 s1 e1 n1 _ (R1.out.below (grow_on B4.out (Go.Joins.below_alloc1 w4 _))) K1.out).mono ?_
  rintro e w5 ⟨⟨X1M, X1cs, rfl, hXM, hk, hs, hh⟩, hb⟩
  have X1k_5 : Hid (Blk w5 X1M X1cs 48) := hk
  have X1s : Hid (X1cs.size = l1.length * 2) := hs
  have X1h : Hid (Held X1cs l1 l1.length) := hh
  have U_X1k : Hid (w4.heap.size ≤ X1M ∧ X1M < w5.heap.size) := ⟨Nat.le_trans (by simp) hXM, hk.lt⟩
  clear hk hs hh hXM
  have Q0_5 : Hid (Blk w5 w4.heap.size #[.slice (some ⟨X0M, 0, none⟩) l0.length l0.length, .int .i64 s0, .int .i64 e0, .string n0] 29) := (Blk.new _ _ _).grow hb
  have U_Q0 : Hid (w4.heap.size ≤ w4.heap.size ∧ w4.heap.size < w5.heap.size) := ⟨Nat.le_refl _, Q0_5.out.lt⟩
  replace hb := grow_on (Go.Joins.below_alloc1 w4 _) hb
  have B5 : Hid (Below w.heap.size w w5) := grow_on B4.out hb
  have Z5 : Hid (w4.heap.size ≤ w5.heap.size) := hb.size
  have P0_5 : Hid (Blk w5 w.heap.size #[.slice a0 l0.length cap0, .int .i64 s0, .int .i64 e0, .string n0] 24) := P0_4.out.grow hb
  have P1_5 : Hid (Blk w5 (w.heap.size + 1) #[.slice a1 l1.length cap1, .int .i64 s1, .int .i64 e1, .string n1] 24) := P1_4.out.grow hb
  have W0_5 : Hid (Blk w5 WN #[.slice (some ⟨WM, 0, none⟩) l1.length Wc, .int .i64 (startB s0 e0 s1 e1), .int .i64 e1, .string n1] 29) := W0_4.out.grow hb
  have Wk_5 : Hid (Blk w5 WM Wcs 48) := Wk_4.out.grow hb
  have X0k_5 : Hid (Blk w5 X0M X0cs 48) := X0k_4.out.grow hb
  clear hb cP00 cP01 cP02 cP03 cP10 cP11 cP12 cP13 cW00 cW01 cW02 cW03
  have cP00 : (w5.alloc (.cells #[.slice (some ⟨X1M, 0, none⟩) l1.length l1.length, .int .i64 s1, .int .i64 e1, .string n1] 29)).cell? ⟨w.heap.size, 0, none⟩ = some (.slice a0 l0.length cap0) := (P0_5.out.alloc _).cell 0
  have cP01 : (w5.alloc (.cells #[.slice (some ⟨X1M, 0, none⟩) l1.length l1.length, .int .i64 s1, .int .i64 e1, .string n1] 29)).cell? ⟨w.heap.size, 1, none⟩ = some (.int .i64 s0) := (P0_5.out.alloc _).cell 1
  have cP02 : (w5.alloc (.cells #[.slice (some ⟨X1M, 0, none⟩) l1.length l1.length, .int .i64 s1, .int .i64 e1, .string n1] 29)).cell? ⟨w.heap.size, 2, none⟩ = some (.int .i64 e0) := (P0_5.out.alloc _).cell 2
  have cP03 : (w5.alloc (.cells #[.slice (some ⟨X1M, 0, none⟩) l1.length l1.length, .int .i64 s1, .int .i64 e1, .string n1] 29)).cell? ⟨w.heap.size, 3, none⟩ = some (.string n0) := (P0_5.out.alloc _).cell 3
  have cP10 : (w5.alloc (.cells #[.slice (some ⟨X1M, 0, none⟩) l1.length l1.length, .int .i64 s1, .int .i64 e1, .string n1] 29)).cell? ⟨(w.heap.size + 1), 0, none⟩ = some (.slice a1 l1.length cap1) := (P1_5.out.alloc _).cell 0
  have cP11 : (w5.alloc (.cells #[.slice (some ⟨X1M, 0, none⟩) l1.length l1.length, .int .i64 s1, .int .i64 e1, .string n1] 29)).cell? ⟨(w.heap.size + 1), 1, none⟩ = some (.int .i64 s1) := (P1_5.out.alloc _).cell 1
  have cP12 : (w5.alloc (.cells #[.slice (some ⟨X1M, 0, none⟩) l1.length l1.length, .int .i64 s1, .int .i64 e1, .string n1] 29)).cell? ⟨(w.heap.size + 1), 2, none⟩ = some (.int .i64 e1) := (P1_5.out.alloc _).cell 2
  have cP13 : (w5.alloc (.cells #[.slice (some ⟨X1M, 0, none⟩) l1.length l1.length, .int .i64 s1, .int .i64 e1, .string n1] 29)).cell? ⟨(w.heap.size + 1), 3, none⟩ = some (.string n1) := (P1_5.out.alloc _).cell 3
  have cW00 : (w5.alloc (.cells #[.slice (some ⟨X1M, 0, none⟩) l1.length l1.length, .int .i64 s1, .int .i64 e1, .string n1] 29)).cell? ⟨WN, 0, none⟩ = some (.slice (some ⟨WM, 0, none⟩) l1.length Wc) := (W0_5.out.alloc _).cell 0
  have cW01 : (w5.alloc (.cells #[.slice (some ⟨X1M, 0, none⟩) l1.length l1.length, .int .i64 s1, .int .i64 e1, .string n1] 29)).cell? ⟨WN, 1, none⟩ = some (.int .i64 (startB s0 e0 s1 e1)) := (W0_5.out.alloc _).cell 1
  have cW02 : (w5.alloc (.cells #[.slice (some ⟨X1M, 0, none⟩) l1.length l1.length, .int .i64 s1, .int .i64 e1, .string n1] 29)).cell? ⟨WN, 2, none⟩ = some (.int .i64 e1) := (W0_5.out.alloc _).cell 2
  have cW03 : (w5.alloc (.cells #[.slice (some ⟨X1M, 0, none⟩) l1.length l1.length, .int .i64 s1, .int .i64 e1, .string n1] 29)).cell? ⟨WN, 3, none⟩ = some (.string n1) := (W0_5.out.alloc _).cell 3
  have cQ00 : (w5.alloc (.cells #[.slice (some ⟨X1M, 0, none⟩) l1.length l1.length, .int .i64 s1, .int .i64 e1, .string n1] 29)).cell? ⟨w4.heap.size, 0, none⟩ = some (.slice (some ⟨X0M, 0, none⟩) l0.length l0.length) := (Q0_5.out.alloc _).cell 0
  have cQ01 : (w5.alloc (.cells #[.slice (some ⟨X1M, 0, none⟩) l1.length l1.length, .int .i64 s1, .int .i64 e1, .string n1] 29)).cell? ⟨w4.heap.size, 1, none⟩ = some (.int .i64 s0) := (Q0_5.out.alloc _).cell 1
  have cQ02 : (w5.alloc (.cells #[.slice (some ⟨X1M, 0, none⟩) l1.length l1.length, .int .i64 s1, .int .i64 e1, .string n1] 29)).cell? ⟨w4.heap.size, 2, none⟩ = some (.int .i64 e0) := (Q0_5.out.alloc _).cell 2
  have cQ03 : (w5.alloc (.cells #[.slice (some ⟨X1M, 0, none⟩) l1.length l1.length, .int .i64 s1, .int .i64 e1, .string n1] 29)).cell? ⟨w4.heap.size, 3, none⟩ = some (.string n0) := (Q0_5.out.alloc _).cell 3
  go_wp2_with fail
  refine (implMerge_any _ _ _ s0 e0 n0 _ _ _ l1 s1 e1 n1 _ ((held_reads X1k_5.out X1h.out).below (Go.Joins.below_alloc1 w5 _)) K1.out).mono ?_
  rintro e w6 ⟨⟨GM, Gc, rfl, hGM, Gcs, hk, hs, hh⟩, hb⟩
  have Gk_6 : Hid (Blk w6 GM Gcs 48) := hk
  have Gs : Hid (l1.length * 2 ≤ Gcs.size) := hs
  have Gh : Hid (Held Gcs l1 l1.length) := hh
  have U_Gk : Hid (w5.heap.size < GM ∧ GM < w6.heap.size) := ⟨by simp at hGM; omega, hk.lt⟩
  clear hk hs hh hGM
  have Q1_6 : Hid (Blk w6 w5.heap.size #[.slice (some ⟨X1M, 0, none⟩) l1.length l1.length, .int .i64 s1, .int .i64 e1, .string n1] 29) := (Blk.new _ _ _).grow hb
  have U_Q1 : Hid (w5.heap.size ≤ w5.heap.size ∧ w5.heap.size < w6.heap.size) := ⟨Nat.le_refl _, Q1_6.out.lt⟩
  replace hb := grow_on (Go.Joins.below_alloc1 w5 _) hb
  have B6 : Hid (Below w.heap.size w w6) := grow_on B5.out hb
  have Z6 : Hid (w5.heap.size ≤ w6.heap.size) := hb.size
  have P0_6 : Hid (Blk w6 w.heap.size #[.slice a0 l0.length cap0, .int .i64 s0, .int .i64 e0, .string n0] 24) := P0_5.out.grow hb
  have P1_6 : Hid (Blk w6 (w.heap.size + 1) #[.slice a1 l1.length cap1, .int .i64 s1, .int .i64 e1, .string n1] 24) := P1_5.out.grow hb
  have W0_6 : Hid (Blk w6 WN #[.slice (some ⟨WM, 0, none⟩) l1.length Wc, .int .i64 (startB s0 e0 s1 e1), .int .i64 e1, .string n1] 29) := W0_5.out.grow hb
  have Wk_6 : Hid (Blk w6 WM Wcs 48) := Wk_5.out.grow hb
  have X0k_6 : Hid (Blk w6 X0M X0cs 48) := X0k_5.out.grow hb
  have Q0_6 : Hid (Blk w6 w4.heap.size #[.slice (some ⟨X0M, 0, none⟩) l0.length l0.length, .int .i64 s0, .int .i64 e0, .string n0] 29) := Q0_5.out.grow hb
  have X1k_6 : Hid (Blk w6 X1M X1cs 48) := X1k_5.out.grow hb
  clear hb cP00 cP01 cP02 cP03 cP10 cP11 cP12 cP13 cW00 cW01 cW02 cW03 cQ00 cQ01 cQ02 cQ03
  have eS : Go.Proofs.Ytinegehejinmiab.Alm.sameB l1 (startB s0 e0 s1 e1) e1 n1 l1 (startB s0 e0 s1 e1) e1 n1 = true := Go.Proofs.Ytinegehejinmiab.Alm.same_self _ _ _ _
  have cP00 : (w6.alloc (.cells #[.slice (some ⟨GM, 0, none⟩) l1.length Gc, .int .i64 (startB s0 e0 s1 e1), .int .i64 e1, .string n1] 29)).cell? ⟨w.heap.size, 0, none⟩ = some (.slice a0 l0.length cap0) := (P0_6.out.alloc _).cell 0
  have cP01 : (w6.alloc (.cells #[.slice (some ⟨GM, 0, none⟩) l1.length Gc, .int .i64 (startB s0 e0 s1 e1), .int .i64 e1, .string n1] 29)).cell? ⟨w.heap.size, 1, none⟩ = some (.int .i64 s0) := (P0_6.out.alloc _).cell 1
  have cP02 : (w6.alloc (.cells #[.slice (some ⟨GM, 0, none⟩) l1.length Gc, .int .i64 (startB s0 e0 s1 e1), .int .i64 e1, .string n1] 29)).cell? ⟨w.heap.size, 2, none⟩ = some (.int .i64 e0) := (P0_6.out.alloc _).cell 2
  have cP03 : (w6.alloc (.cells #[.slice (some ⟨GM, 0, none⟩) l1.length Gc, .int .i64 (startB s0 e0 s1 e1), .int .i64 e1, .string n1] 29)).cell? ⟨w.heap.size, 3, none⟩ = some (.string n0) := (P0_6.out.alloc _).cell 3
  have cP10 : (w6.alloc (.cells #[.slice (some ⟨GM, 0, none⟩) l1.length Gc, .int .i64 (startB s0 e0 s1 e1), .int .i64 e1, .string n1] 29)).cell? ⟨(w.heap.size + 1), 0, none⟩ = some (.slice a1 l1.length cap1) := (P1_6.out.alloc _).cell 0
  have cP11 : (w6.alloc (.cells #[.slice (some ⟨GM, 0, none⟩) l1.length Gc, .int .i64 (startB s0 e0 s1 e1), .int .i64 e1, .string n1] 29)).cell? ⟨(w.heap.size + 1), 1, none⟩ = some (.int .i64 s1) := (P1_6.out.alloc _).cell 1
  have cP12 : (w6.alloc (.cells #[.slice (some ⟨GM, 0, none⟩) l1.length Gc, .int .i64 (startB s0 e0 s1 e1), .int .i64 e1, .string n1] 29)).cell? ⟨(w.heap.size + 1), 2, none⟩ = some (.int .i64 e1) := (P1_6.out.alloc _).cell 2
  have cP13 : (w6.alloc (.cells #[.slice (some ⟨GM, 0, none⟩) l1.length Gc, .int .i64 (startB s0 e0 s1 e1), .int .i64 e1, .string n1] 29)).cell? ⟨(w.heap.size + 1), 3, none⟩ = some (.string n1) := (P1_6.out.alloc _).cell 3
  have cW00 : (w6.alloc (.cells #[.slice (some ⟨GM, 0, none⟩) l1.length Gc, .int .i64 (startB s0 e0 s1 e1), .int .i64 e1, .string n1] 29)).cell? ⟨WN, 0, none⟩ = some (.slice (some ⟨WM, 0, none⟩) l1.length Wc) := (W0_6.out.alloc _).cell 0
  have cW01 : (w6.alloc (.cells #[.slice (some ⟨GM, 0, none⟩) l1.length Gc, .int .i64 (startB s0 e0 s1 e1), .int .i64 e1, .string n1] 29)).cell? ⟨WN, 1, none⟩ = some (.int .i64 (startB s0 e0 s1 e1)) := (W0_6.out.alloc _).cell 1
  have cW02 : (w6.alloc (.cells #[.slice (some ⟨GM, 0, none⟩) l1.length Gc, .int .i64 (startB s0 e0 s1 e1), .int .i64 e1, .string n1] 29)).cell? ⟨WN, 2, none⟩ = some (.int .i64 e1) := (W0_6.out.alloc _).cell 2
  have cW03 : (w6.alloc (.cells #[.slice (some ⟨GM, 0, none⟩) l1.length Gc, .int .i64 (startB s0 e0 s1 e1), .int .i64 e1, .string n1] 29)).cell? ⟨WN, 3, none⟩ = some (.string n1) := (W0_6.out.alloc _).cell 3
  have cQ00 : (w6.alloc (.cells #[.slice (some ⟨GM, 0, none⟩) l1.length Gc, .int .i64 (startB s0 e0 s1 e1), .int .i64 e1, .string n1] 29)).cell? ⟨w4.heap.size, 0, none⟩ = some (.slice (some ⟨X0M, 0, none⟩) l0.length l0.length) := (Q0_6.out.alloc _).cell 0
  have cQ01 : (w6.alloc (.cells #[.slice (some ⟨GM, 0, none⟩) l1.length Gc, .int .i64 (startB s0 e0 s1 e1), .int .i64 e1, .string n1] 29)).cell? ⟨w4.heap.size, 1, none⟩ = some (.int .i64 s0) := (Q0_6.out.alloc _).cell 1
  have cQ02 : (w6.alloc (.cells #[.slice (some ⟨GM, 0, none⟩) l1.length Gc, .int .i64 (startB s0 e0 s1 e1), .int .i64 e1, .string n1] 29)).cell? ⟨w4.heap.size, 2, none⟩ = some (.int .i64 e0) := (Q0_6.out.alloc _).cell 2
  have cQ03 : (w6.alloc (.cells #[.slice (some ⟨GM, 0, none⟩) l1.length Gc, .int .i64 (startB s0 e0 s1 e1), .int .i64 e1, .string n1] 29)).cell? ⟨w4.heap.size, 3, none⟩ = some (.string n0) := (Q0_6.out.alloc _).cell 3
  have cQ10 : (w6.alloc (.cells #[.slice (some ⟨GM, 0, none⟩) l1.length Gc, .int .i64 (startB s0 e0 s1 e1), .int .i64 e1, .string n1] 29)).cell? ⟨w5.heap.size, 0, none⟩ = some (.slice (some ⟨X1M, 0, none⟩) l1.length l1.length) := (Q1_6.out.alloc _).cell 0
  have cQ11 : (w6.alloc (.cells #[.slice (some ⟨GM, 0, none⟩) l1.length Gc, .int .i64 (startB s0 e0 s1 e1), .int .i64 e1, .string n1] 29)).cell? ⟨w5.heap.size, 1, none⟩ = some (.int .i64 s1) := (Q1_6.out.alloc _).cell 1
  have cQ12 : (w6.alloc (.cells #[.slice (some ⟨GM, 0, none⟩) l1.length Gc, .int .i64 (startB s0 e0 s1 e1), .int .i64 e1, .string n1] 29)).cell? ⟨w5.heap.size, 2, none⟩ = some (.int .i64 e1) := (Q1_6.out.alloc _).cell 2
  have cQ13 : (w6.alloc (.cells #[.slice (some ⟨GM, 0, none⟩) l1.length Gc, .int .i64 (startB s0 e0 s1 e1), .int .i64 e1, .string n1] 29)).cell? ⟨w5.heap.size, 3, none⟩ = some (.string n1) := (Q1_6.out.alloc _).cell 3
  go_wp2_with fail
  refine (Go.Proofs.Ytinegehejinmiab.Alm.eq_any _ _ _ _ l1 l1 (startB s0 e0 s1 e1) e1 (startB s0 e0 s1 e1) e1 n1 n1 _ ((held_reads Gk_6.out Gh.out).below (Go.Joins.below_alloc1 w6 _)) ((held_reads Wk_6.out Wh.out).below (Go.Joins.below_alloc1 w6 _)) M1.out M1.out).mono ?_
  rintro e w7 ⟨rfl, hb⟩
  have G0_7 : Hid (Blk w7 w6.heap.size #[.slice (some ⟨GM, 0, none⟩) l1.length Gc, .int .i64 (startB s0 e0 s1 e1), .int .i64 e1, .string n1] 29) := (Blk.new _ _ _).grow hb
  have U_G0 : Hid (w6.heap.size ≤ w6.heap.size ∧ w6.heap.size < w7.heap.size) := ⟨Nat.le_refl _, G0_7.out.lt⟩
  replace hb := grow_on (Go.Joins.below_alloc1 w6 _) hb
  have B7 : Hid (Below w.heap.size w w7) := grow_on B6.out hb
  have Z7 : Hid (w6.heap.size ≤ w7.heap.size) := hb.size
  have P0_7 : Hid (Blk w7 w.heap.size #[.slice a0 l0.length cap0, .int .i64 s0, .int .i64 e0, .string n0] 24) := P0_6.out.grow hb
  have P1_7 : Hid (Blk w7 (w.heap.size + 1) #[.slice a1 l1.length cap1, .int .i64 s1, .int .i64 e1, .string n1] 24) := P1_6.out.grow hb
  have W0_7 : Hid (Blk w7 WN #[.slice (some ⟨WM, 0, none⟩) l1.length Wc, .int .i64 (startB s0 e0 s1 e1), .int .i64 e1, .string n1] 29) := W0_6.out.grow hb
  have Wk_7 : Hid (Blk w7 WM Wcs 48) := Wk_6.out.grow hb
  have X0k_7 : Hid (Blk w7 X0M X0cs 48) := X0k_6.out.grow hb
  have Q0_7 : Hid (Blk w7 w4.heap.size #[.slice (some ⟨X0M, 0, none⟩) l0.length l0.length, .int .i64 s0, .int .i64 e0, .string n0] 29) := Q0_6.out.grow hb
  have X1k_7 : Hid (Blk w7 X1M X1cs 48) := X1k_6.out.grow hb
  have Q1_7 : Hid (Blk w7 w5.heap.size #[.slice (some ⟨X1M, 0, none⟩) l1.length l1.length, .int .i64 s1, .int .i64 e1, .string n1] 29) := Q1_6.out.grow hb
  have Gk_7 : Hid (Blk w7 GM Gcs 48) := Gk_6.out.grow hb
  clear hb cP00 cP01 cP02 cP03 cP10 cP11 cP12 cP13 cW00 cW01 cW02 cW03 cQ00 cQ01 cQ02 cQ03 cQ10 cQ11 cQ12 cQ13
  have e0' : Go.Proofs.Ytinegehejinmiab.Alm.sameB l0 s0 e0 n0 l0 s0 e0 n0 = true := Go.Proofs.Ytinegehejinmiab.Alm.same_self _ _ _ _
  have cP00 : w7.cell? ⟨w.heap.size, 0, none⟩ = some (.slice a0 l0.length cap0) := (P0_7.out).cell 0
  have cP01 : w7.cell? ⟨w.heap.size, 1, none⟩ = some (.int .i64 s0) := (P0_7.out).cell 1
  have cP02 : w7.cell? ⟨w.heap.size, 2, none⟩ = some (.int .i64 e0) := (P0_7.out).cell 2
  have cP03 : w7.cell? ⟨w.heap.size, 3, none⟩ = some (.string n0) := (P0_7.out).cell 3
  have cQ00 : w7.cell? ⟨w4.heap.size, 0, none⟩ = some (.slice (some ⟨X0M, 0, none⟩) l0.length l0.length) := (Q0_7.out).cell 0
  have cQ01 : w7.cell? ⟨w4.heap.size, 1, none⟩ = some (.int .i64 s0) := (Q0_7.out).cell 1
  have cQ02 : w7.cell? ⟨w4.heap.size, 2, none⟩ = some (.int .i64 e0) := (Q0_7.out).cell 2
  have cQ03 : w7.cell? ⟨w4.heap.size, 3, none⟩ = some (.string n0) := (Q0_7.out).cell 3
  go_wp2
  have kz : Below w7.heap.size w7 w7.drew := (Below.refl _ _).drew
  have kP0 := P0_7.out.lt
  have kQ0 := Q0_7.out.lt
  have HS : Hid (∀ w', Below w7.heap.size w7 w' → Below w7.heap.size w7 w' ∧ w'.cell? ⟨w.heap.size, 0, none⟩ = some (.slice a0 l0.length cap0) ∧ w'.cell? ⟨w.heap.size, 1, none⟩ = some (.int .i64 s0) ∧ w'.cell? ⟨w.heap.size, 2, none⟩ = some (.int .i64 e0) ∧ w'.cell? ⟨w.heap.size, 3, none⟩ = some (.string n0) ∧ w'.cell? ⟨w4.heap.size, 0, none⟩ = some (.slice (some ⟨X0M, 0, none⟩) l0.length l0.length) ∧ w'.cell? ⟨w4.heap.size, 1, none⟩ = some (.int .i64 s0) ∧ w'.cell? ⟨w4.heap.size, 2, none⟩ = some (.int .i64 e0) ∧ w'.cell? ⟨w4.heap.size, 3, none⟩ = some (.string n0)) := fun w' h => ⟨h, (h.cell kP0).trans cP00, (h.cell kP0).trans cP01, (h.cell kP0).trans cP02, (h.cell kP0).trans cP03, (h.cell kQ0).trans cQ00, (h.cell kQ0).trans cQ01, (h.cell kQ0).trans cQ02, (h.cell kQ0).trans cQ03⟩
  go_region_held3 (fun w' => Below w7.heap.size w7 w' ∧ w'.cell? ⟨w.heap.size, 0, none⟩ = some (.slice a0 l0.length cap0) ∧ w'.cell? ⟨w.heap.size, 1, none⟩ = some (.int .i64 s0) ∧ w'.cell? ⟨w.heap.size, 2, none⟩ = some (.int .i64 e0) ∧ w'.cell? ⟨w.heap.size, 3, none⟩ = some (.string n0) ∧ w'.cell? ⟨w4.heap.size, 0, none⟩ = some (.slice (some ⟨X0M, 0, none⟩) l0.length l0.length) ∧ w'.cell? ⟨w4.heap.size, 1, none⟩ = some (.int .i64 s0) ∧ w'.cell? ⟨w4.heap.size, 2, none⟩ = some (.int .i64 e0) ∧ w'.cell? ⟨w4.heap.size, 3, none⟩ = some (.string n0)) (first | with_reducible exact HS.out _ kz | with_reducible exact HS.out _ (grow_on kz hy0) | with_reducible exact HS.out _ (grow_on (grow_on kz hy0) hy1) | (go_keep; done)) (first | (go_at_call 9; with_reducible refine (Go.Proofs.Ytinegehejinmiab.Alm.to_any a0 cap0 l0 s0 e0 n0 _ (R0.out.below (grow_on B7.out kz)) K0.out).mono ?_; rintro e wy ⟨⟨YM, cs, rfl, -, hk, -, hh⟩, hy0⟩) | (go_at_call 11; refine (Go.Proofs.Ytinegehejinmiab.Alm.eq_any _ _ _ _ l0 l0 s0 e0 s0 e0 n0 n0 _ ((held_reads X0k_7.out X0h.out).below (grow_on kz hy0)) (held_reads hk hh) M0.out M0.out).mono ?_; rintro e w8 ⟨rfl, hy1⟩))
  have hb := (grow_on (grow_on kz hy0) hy1)
  have B8 : Hid (Below w.heap.size w w8) := grow_on B7.out hb
  have Z8 : Hid (w7.heap.size ≤ w8.heap.size) := hb.size
  have P0_8 : Hid (Blk w8 w.heap.size #[.slice a0 l0.length cap0, .int .i64 s0, .int .i64 e0, .string n0] 24) := P0_7.out.grow hb
  have P1_8 : Hid (Blk w8 (w.heap.size + 1) #[.slice a1 l1.length cap1, .int .i64 s1, .int .i64 e1, .string n1] 24) := P1_7.out.grow hb
  have W0_8 : Hid (Blk w8 WN #[.slice (some ⟨WM, 0, none⟩) l1.length Wc, .int .i64 (startB s0 e0 s1 e1), .int .i64 e1, .string n1] 29) := W0_7.out.grow hb
  have Wk_8 : Hid (Blk w8 WM Wcs 48) := Wk_7.out.grow hb
  have X0k_8 : Hid (Blk w8 X0M X0cs 48) := X0k_7.out.grow hb
  have Q0_8 : Hid (Blk w8 w4.heap.size #[.slice (some ⟨X0M, 0, none⟩) l0.length l0.length, .int .i64 s0, .int .i64 e0, .string n0] 29) := Q0_7.out.grow hb
  have X1k_8 : Hid (Blk w8 X1M X1cs 48) := X1k_7.out.grow hb
  have Q1_8 : Hid (Blk w8 w5.heap.size #[.slice (some ⟨X1M, 0, none⟩) l1.length l1.length, .int .i64 s1, .int .i64 e1, .string n1] 29) := Q1_7.out.grow hb
  have Gk_8 : Hid (Blk w8 GM Gcs 48) := Gk_7.out.grow hb
  have G0_8 : Hid (Blk w8 w6.heap.size #[.slice (some ⟨GM, 0, none⟩) l1.length Gc, .int .i64 (startB s0 e0 s1 e1), .int .i64 e1, .string n1] 29) := G0_7.out.grow hb
  clear hb kz HS hy0 hy1 kP0 kQ0 cP00 cP01 cP02 cP03 cQ00 cQ01 cQ02 cQ03 hk hh
  have e1' : Go.Proofs.Ytinegehejinmiab.Alm.sameB l1 s1 e1 n1 l1 s1 e1 n1 = true := Go.Proofs.Ytinegehejinmiab.Alm.same_self _ _ _ _
  have cP10 : w8.cell? ⟨(w.heap.size + 1), 0, none⟩ = some (.slice a1 l1.length cap1) := (P1_8.out).cell 0
  have cP11 : w8.cell? ⟨(w.heap.size + 1), 1, none⟩ = some (.int .i64 s1) := (P1_8.out).cell 1
  have cP12 : w8.cell? ⟨(w.heap.size + 1), 2, none⟩ = some (.int .i64 e1) := (P1_8.out).cell 2
  have cP13 : w8.cell? ⟨(w.heap.size + 1), 3, none⟩ = some (.string n1) := (P1_8.out).cell 3
  have cQ10 : w8.cell? ⟨w5.heap.size, 0, none⟩ = some (.slice (some ⟨X1M, 0, none⟩) l1.length l1.length) := (Q1_8.out).cell 0
  have cQ11 : w8.cell? ⟨w5.heap.size, 1, none⟩ = some (.int .i64 s1) := (Q1_8.out).cell 1
  have cQ12 : w8.cell? ⟨w5.heap.size, 2, none⟩ = some (.int .i64 e1) := (Q1_8.out).cell 2
  have cQ13 : w8.cell? ⟨w5.heap.size, 3, none⟩ = some (.string n1) := (Q1_8.out).cell 3
  go_wp2
  have kz : Below w8.heap.size w8 w8.drew := (Below.refl _ _).drew
  have kP1 := P1_8.out.lt
  have kQ1 := Q1_8.out.lt
  have HS : Hid (∀ w', Below w8.heap.size w8 w' → Below w8.heap.size w8 w' ∧ w'.cell? ⟨(w.heap.size + 1), 0, none⟩ = some (.slice a1 l1.length cap1) ∧ w'.cell? ⟨(w.heap.size + 1), 1, none⟩ = some (.int .i64 s1) ∧ w'.cell? ⟨(w.heap.size + 1), 2, none⟩ = some (.int .i64 e1) ∧ w'.cell? ⟨(w.heap.size + 1), 3, none⟩ = some (.string n1) ∧ w'.cell? ⟨w5.heap.size, 0, none⟩ = some (.slice (some ⟨X1M, 0, none⟩) l1.length l1.length) ∧ w'.cell? ⟨w5.heap.size, 1, none⟩ = some (.int .i64 s1) ∧ w'.cell? ⟨w5.heap.size, 2, none⟩ = some (.int .i64 e1) ∧ w'.cell? ⟨w5.heap.size, 3, none⟩ = some (.string n1)) := fun w' h => ⟨h, (h.cell kP1).trans cP10, (h.cell kP1).trans cP11, (h.cell kP1).trans cP12, (h.cell kP1).trans cP13, (h.cell kQ1).trans cQ10, (h.cell kQ1).trans cQ11, (h.cell kQ1).trans cQ12, (h.cell kQ1).trans cQ13⟩
  go_region_held3 (fun w' => Below w8.heap.size w8 w' ∧ w'.cell? ⟨(w.heap.size + 1), 0, none⟩ = some (.slice a1 l1.length cap1) ∧ w'.cell? ⟨(w.heap.size + 1), 1, none⟩ = some (.int .i64 s1) ∧ w'.cell? ⟨(w.heap.size + 1), 2, none⟩ = some (.int .i64 e1) ∧ w'.cell? ⟨(w.heap.size + 1), 3, none⟩ = some (.string n1) ∧ w'.cell? ⟨w5.heap.size, 0, none⟩ = some (.slice (some ⟨X1M, 0, none⟩) l1.length l1.length) ∧ w'.cell? ⟨w5.heap.size, 1, none⟩ = some (.int .i64 s1) ∧ w'.cell? ⟨w5.heap.size, 2, none⟩ = some (.int .i64 e1) ∧ w'.cell? ⟨w5.heap.size, 3, none⟩ = some (.string n1)) (first | with_reducible exact HS.out _ kz | with_reducible exact HS.out _ (grow_on kz hy0) | with_reducible exact HS.out _ (grow_on (grow_on kz hy0) hy1) | (go_keep; done)) (first | (go_at_call 9; with_reducible refine (Go.Proofs.Ytinegehejinmiab.Alm.to_any a1 cap1 l1 s1 e1 n1 _ (R1.out.below (grow_on B8.out kz)) K1.out).mono ?_; rintro e wy ⟨⟨YM, cs, rfl, -, hk, -, hh⟩, hy0⟩) | (go_at_call 11; refine (Go.Proofs.Ytinegehejinmiab.Alm.eq_any _ _ _ _ l1 l1 s1 e1 s1 e1 n1 n1 _ ((held_reads X1k_8.out X1h.out).below (grow_on kz hy0)) (held_reads hk hh) M1.out M1.out).mono ?_; rintro e w9 ⟨rfl, hy1⟩))
  have hb := (grow_on (grow_on kz hy0) hy1)
  have B9 : Hid (Below w.heap.size w w9) := grow_on B8.out hb
  have Z9 : Hid (w8.heap.size ≤ w9.heap.size) := hb.size
  have P0_9 : Hid (Blk w9 w.heap.size #[.slice a0 l0.length cap0, .int .i64 s0, .int .i64 e0, .string n0] 24) := P0_8.out.grow hb
  have P1_9 : Hid (Blk w9 (w.heap.size + 1) #[.slice a1 l1.length cap1, .int .i64 s1, .int .i64 e1, .string n1] 24) := P1_8.out.grow hb
  have W0_9 : Hid (Blk w9 WN #[.slice (some ⟨WM, 0, none⟩) l1.length Wc, .int .i64 (startB s0 e0 s1 e1), .int .i64 e1, .string n1] 29) := W0_8.out.grow hb
  have Wk_9 : Hid (Blk w9 WM Wcs 48) := Wk_8.out.grow hb
  have X0k_9 : Hid (Blk w9 X0M X0cs 48) := X0k_8.out.grow hb
  have Q0_9 : Hid (Blk w9 w4.heap.size #[.slice (some ⟨X0M, 0, none⟩) l0.length l0.length, .int .i64 s0, .int .i64 e0, .string n0] 29) := Q0_8.out.grow hb
  have X1k_9 : Hid (Blk w9 X1M X1cs 48) := X1k_8.out.grow hb
  have Q1_9 : Hid (Blk w9 w5.heap.size #[.slice (some ⟨X1M, 0, none⟩) l1.length l1.length, .int .i64 s1, .int .i64 e1, .string n1] 29) := Q1_8.out.grow hb
  have Gk_9 : Hid (Blk w9 GM Gcs 48) := Gk_8.out.grow hb
  have G0_9 : Hid (Blk w9 w6.heap.size #[.slice (some ⟨GM, 0, none⟩) l1.length Gc, .int .i64 (startB s0 e0 s1 e1), .int .i64 e1, .string n1] 29) := G0_8.out.grow hb
  clear hb kz HS hy0 hy1 kP1 kQ1 cP10 cP11 cP12 cP13 cQ10 cQ11 cQ12 cQ13 hk hh
  have cP00 : w9.cell? ⟨w.heap.size, 0, none⟩ = some (.slice a0 l0.length cap0) := (P0_9.out).cell 0
  have cP01 : w9.cell? ⟨w.heap.size, 1, none⟩ = some (.int .i64 s0) := (P0_9.out).cell 1
  have cP02 : w9.cell? ⟨w.heap.size, 2, none⟩ = some (.int .i64 e0) := (P0_9.out).cell 2
  have cP03 : w9.cell? ⟨w.heap.size, 3, none⟩ = some (.string n0) := (P0_9.out).cell 3
  have cP10 : w9.cell? ⟨(w.heap.size + 1), 0, none⟩ = some (.slice a1 l1.length cap1) := (P1_9.out).cell 0
  have cP11 : w9.cell? ⟨(w.heap.size + 1), 1, none⟩ = some (.int .i64 s1) := (P1_9.out).cell 1
  have cP12 : w9.cell? ⟨(w.heap.size + 1), 2, none⟩ = some (.int .i64 e1) := (P1_9.out).cell 2
  have cP13 : w9.cell? ⟨(w.heap.size + 1), 3, none⟩ = some (.string n1) := (P1_9.out).cell 3
  have cW00 : w9.cell? ⟨WN, 0, none⟩ = some (.slice (some ⟨WM, 0, none⟩) l1.length Wc) := (W0_9.out).cell 0
  have cW01 : w9.cell? ⟨WN, 1, none⟩ = some (.int .i64 (startB s0 e0 s1 e1)) := (W0_9.out).cell 1
  have cW02 : w9.cell? ⟨WN, 2, none⟩ = some (.int .i64 e1) := (W0_9.out).cell 2
  have cW03 : w9.cell? ⟨WN, 3, none⟩ = some (.string n1) := (W0_9.out).cell 3
  have cQ00 : w9.cell? ⟨w4.heap.size, 0, none⟩ = some (.slice (some ⟨X0M, 0, none⟩) l0.length l0.length) := (Q0_9.out).cell 0
  have cQ01 : w9.cell? ⟨w4.heap.size, 1, none⟩ = some (.int .i64 s0) := (Q0_9.out).cell 1
  have cQ02 : w9.cell? ⟨w4.heap.size, 2, none⟩ = some (.int .i64 e0) := (Q0_9.out).cell 2
  have cQ03 : w9.cell? ⟨w4.heap.size, 3, none⟩ = some (.string n0) := (Q0_9.out).cell 3
  have cQ10 : w9.cell? ⟨w5.heap.size, 0, none⟩ = some (.slice (some ⟨X1M, 0, none⟩) l1.length l1.length) := (Q1_9.out).cell 0
  have cQ11 : w9.cell? ⟨w5.heap.size, 1, none⟩ = some (.int .i64 s1) := (Q1_9.out).cell 1
  have cQ12 : w9.cell? ⟨w5.heap.size, 2, none⟩ = some (.int .i64 e1) := (Q1_9.out).cell 2
  have cQ13 : w9.cell? ⟨w5.heap.size, 3, none⟩ = some (.string n1) := (Q1_9.out).cell 3
  have cG00 : w9.cell? ⟨w6.heap.size, 0, none⟩ = some (.slice (some ⟨GM, 0, none⟩) l1.length Gc) := (G0_9.out).cell 0
  have cG01 : w9.cell? ⟨w6.heap.size, 1, none⟩ = some (.int .i64 (startB s0 e0 s1 e1)) := (G0_9.out).cell 1
  have cG02 : w9.cell? ⟨w6.heap.size, 2, none⟩ = some (.int .i64 e1) := (G0_9.out).cell 2
  have cG03 : w9.cell? ⟨w6.heap.size, 3, none⟩ = some (.string n1) := (G0_9.out).cell 3
  go_wp2_with fail
  refine (markA_any X0M l0.length l0.length 1 s0 e0 n0 X0cs _ X0k_9.out (by rw [X0s.out]; exact Nat.le_refl _) K0.out (by omega) (by omega)).mono ?_
  rintro e w10 ⟨rfl, -, ha⟩
  have B10 : Hid (Below w.heap.size w w10) := B9.out.trans (ha.low (by have h0 := Z1.out; have h1 := Z2.out; have h2 := Z3.out; have h3 := Z4.out; have h4 := Z5.out; have h5 := Z6.out; have h6 := Z7.out; have h7 := Z8.out; have h8 := Z9.out; have h9 := U_P0.out; have h10 := U_P1.out; have h11 := U_W.out; have h12 := U_X0k.out; have h13 := U_Q0.out; have h14 := U_X1k.out; have h15 := U_Q1.out; have h16 := U_Gk.out; have h17 := U_G0.out; omega) B9.out.size)
  have Z10 : Hid (w9.heap.size ≤ w10.heap.size) := ha.size
  have P0_10 : Hid (Blk w10 w.heap.size #[.slice a0 l0.length cap0, .int .i64 s0, .int .i64 e0, .string n0] 24) := ha.blk P0_9.out (by have h0 := Z1.out; have h1 := Z2.out; have h2 := Z3.out; have h3 := Z4.out; have h4 := Z5.out; have h5 := Z6.out; have h6 := Z7.out; have h7 := Z8.out; have h8 := Z9.out; have h9 := Z10.out; have h10 := U_P0.out; have h11 := U_P1.out; have h12 := U_W.out; have h13 := U_X0k.out; have h14 := U_Q0.out; have h15 := U_X1k.out; have h16 := U_Q1.out; have h17 := U_Gk.out; have h18 := U_G0.out; omega)
  have P1_10 : Hid (Blk w10 (w.heap.size + 1) #[.slice a1 l1.length cap1, .int .i64 s1, .int .i64 e1, .string n1] 24) := ha.blk P1_9.out (by have h0 := Z1.out; have h1 := Z2.out; have h2 := Z3.out; have h3 := Z4.out; have h4 := Z5.out; have h5 := Z6.out; have h6 := Z7.out; have h7 := Z8.out; have h8 := Z9.out; have h9 := Z10.out; have h10 := U_P0.out; have h11 := U_P1.out; have h12 := U_W.out; have h13 := U_X0k.out; have h14 := U_Q0.out; have h15 := U_X1k.out; have h16 := U_Q1.out; have h17 := U_Gk.out; have h18 := U_G0.out; omega)
  have W0_10 : Hid (Blk w10 WN #[.slice (some ⟨WM, 0, none⟩) l1.length Wc, .int .i64 (startB s0 e0 s1 e1), .int .i64 e1, .string n1] 29) := ha.blk W0_9.out (by have h0 := Z1.out; have h1 := Z2.out; have h2 := Z3.out; have h3 := Z4.out; have h4 := Z5.out; have h5 := Z6.out; have h6 := Z7.out; have h7 := Z8.out; have h8 := Z9.out; have h9 := Z10.out; have h10 := U_P0.out; have h11 := U_P1.out; have h12 := U_W.out; have h13 := U_X0k.out; have h14 := U_Q0.out; have h15 := U_X1k.out; have h16 := U_Q1.out; have h17 := U_Gk.out; have h18 := U_G0.out; omega)
  have Wk_10 : Hid (Blk w10 WM Wcs 48) := ha.blk Wk_9.out (by have h0 := Z1.out; have h1 := Z2.out; have h2 := Z3.out; have h3 := Z4.out; have h4 := Z5.out; have h5 := Z6.out; have h6 := Z7.out; have h7 := Z8.out; have h8 := Z9.out; have h9 := Z10.out; have h10 := U_P0.out; have h11 := U_P1.out; have h12 := U_W.out; have h13 := U_X0k.out; have h14 := U_Q0.out; have h15 := U_X1k.out; have h16 := U_Q1.out; have h17 := U_Gk.out; have h18 := U_G0.out; omega)
  have Q0_10 : Hid (Blk w10 w4.heap.size #[.slice (some ⟨X0M, 0, none⟩) l0.length l0.length, .int .i64 s0, .int .i64 e0, .string n0] 29) := ha.blk Q0_9.out (by have h0 := Z1.out; have h1 := Z2.out; have h2 := Z3.out; have h3 := Z4.out; have h4 := Z5.out; have h5 := Z6.out; have h6 := Z7.out; have h7 := Z8.out; have h8 := Z9.out; have h9 := Z10.out; have h10 := U_P0.out; have h11 := U_P1.out; have h12 := U_W.out; have h13 := U_X0k.out; have h14 := U_Q0.out; have h15 := U_X1k.out; have h16 := U_Q1.out; have h17 := U_Gk.out; have h18 := U_G0.out; omega)
  have X1k_10 : Hid (Blk w10 X1M X1cs 48) := ha.blk X1k_9.out (by have h0 := Z1.out; have h1 := Z2.out; have h2 := Z3.out; have h3 := Z4.out; have h4 := Z5.out; have h5 := Z6.out; have h6 := Z7.out; have h7 := Z8.out; have h8 := Z9.out; have h9 := Z10.out; have h10 := U_P0.out; have h11 := U_P1.out; have h12 := U_W.out; have h13 := U_X0k.out; have h14 := U_Q0.out; have h15 := U_X1k.out; have h16 := U_Q1.out; have h17 := U_Gk.out; have h18 := U_G0.out; omega)
  have Q1_10 : Hid (Blk w10 w5.heap.size #[.slice (some ⟨X1M, 0, none⟩) l1.length l1.length, .int .i64 s1, .int .i64 e1, .string n1] 29) := ha.blk Q1_9.out (by have h0 := Z1.out; have h1 := Z2.out; have h2 := Z3.out; have h3 := Z4.out; have h4 := Z5.out; have h5 := Z6.out; have h6 := Z7.out; have h7 := Z8.out; have h8 := Z9.out; have h9 := Z10.out; have h10 := U_P0.out; have h11 := U_P1.out; have h12 := U_W.out; have h13 := U_X0k.out; have h14 := U_Q0.out; have h15 := U_X1k.out; have h16 := U_Q1.out; have h17 := U_Gk.out; have h18 := U_G0.out; omega)
  have Gk_10 : Hid (Blk w10 GM Gcs 48) := ha.blk Gk_9.out (by have h0 := Z1.out; have h1 := Z2.out; have h2 := Z3.out; have h3 := Z4.out; have h4 := Z5.out; have h5 := Z6.out; have h6 := Z7.out; have h7 := Z8.out; have h8 := Z9.out; have h9 := Z10.out; have h10 := U_P0.out; have h11 := U_P1.out; have h12 := U_W.out; have h13 := U_X0k.out; have h14 := U_Q0.out; have h15 := U_X1k.out; have h16 := U_Q1.out; have h17 := U_Gk.out; have h18 := U_G0.out; omega)
  have G0_10 : Hid (Blk w10 w6.heap.size #[.slice (some ⟨GM, 0, none⟩) l1.length Gc, .int .i64 (startB s0 e0 s1 e1), .int .i64 e1, .string n1] 29) := ha.blk G0_9.out (by have h0 := Z1.out; have h1 := Z2.out; have h2 := Z3.out; have h3 := Z4.out; have h4 := Z5.out; have h5 := Z6.out; have h6 := Z7.out; have h7 := Z8.out; have h8 := Z9.out; have h9 := Z10.out; have h10 := U_P0.out; have h11 := U_P1.out; have h12 := U_W.out; have h13 := U_X0k.out; have h14 := U_Q0.out; have h15 := U_X1k.out; have h16 := U_Q1.out; have h17 := U_Gk.out; have h18 := U_G0.out; omega)
  clear ha cP00 cP01 cP02 cP03 cP10 cP11 cP12 cP13 cW00 cW01 cW02 cW03 cQ00 cQ01 cQ02 cQ03 cQ10 cQ11 cQ12 cQ13 cG00 cG01 cG02 cG03
  have HM1 : Hid (1 ≤ 1 + 2 * l0.length ∧ 1 + 2 * l0.length ≤ 10000000) := by have := K0.out; exact ⟨by omega, by omega⟩
  generalize 1 + 2 * l0.length = m1 at HM1 ⊢
  have cP00 : w10.cell? ⟨w.heap.size, 0, none⟩ = some (.slice a0 l0.length cap0) := (P0_10.out).cell 0
  have cP01 : w10.cell? ⟨w.heap.size, 1, none⟩ = some (.int .i64 s0) := (P0_10.out).cell 1
  have cP02 : w10.cell? ⟨w.heap.size, 2, none⟩ = some (.int .i64 e0) := (P0_10.out).cell 2
  have cP03 : w10.cell? ⟨w.heap.size, 3, none⟩ = some (.string n0) := (P0_10.out).cell 3
  have cP10 : w10.cell? ⟨(w.heap.size + 1), 0, none⟩ = some (.slice a1 l1.length cap1) := (P1_10.out).cell 0
  have cP11 : w10.cell? ⟨(w.heap.size + 1), 1, none⟩ = some (.int .i64 s1) := (P1_10.out).cell 1
  have cP12 : w10.cell? ⟨(w.heap.size + 1), 2, none⟩ = some (.int .i64 e1) := (P1_10.out).cell 2
  have cP13 : w10.cell? ⟨(w.heap.size + 1), 3, none⟩ = some (.string n1) := (P1_10.out).cell 3
  have cW00 : w10.cell? ⟨WN, 0, none⟩ = some (.slice (some ⟨WM, 0, none⟩) l1.length Wc) := (W0_10.out).cell 0
  have cW01 : w10.cell? ⟨WN, 1, none⟩ = some (.int .i64 (startB s0 e0 s1 e1)) := (W0_10.out).cell 1
  have cW02 : w10.cell? ⟨WN, 2, none⟩ = some (.int .i64 e1) := (W0_10.out).cell 2
  have cW03 : w10.cell? ⟨WN, 3, none⟩ = some (.string n1) := (W0_10.out).cell 3
  have cQ10 : w10.cell? ⟨w5.heap.size, 0, none⟩ = some (.slice (some ⟨X1M, 0, none⟩) l1.length l1.length) := (Q1_10.out).cell 0
  have cQ11 : w10.cell? ⟨w5.heap.size, 1, none⟩ = some (.int .i64 s1) := (Q1_10.out).cell 1
  have cQ12 : w10.cell? ⟨w5.heap.size, 2, none⟩ = some (.int .i64 e1) := (Q1_10.out).cell 2
  have cQ13 : w10.cell? ⟨w5.heap.size, 3, none⟩ = some (.string n1) := (Q1_10.out).cell 3
  have cG00 : w10.cell? ⟨w6.heap.size, 0, none⟩ = some (.slice (some ⟨GM, 0, none⟩) l1.length Gc) := (G0_10.out).cell 0
  have cG01 : w10.cell? ⟨w6.heap.size, 1, none⟩ = some (.int .i64 (startB s0 e0 s1 e1)) := (G0_10.out).cell 1
  have cG02 : w10.cell? ⟨w6.heap.size, 2, none⟩ = some (.int .i64 e1) := (G0_10.out).cell 2
  have cG03 : w10.cell? ⟨w6.heap.size, 3, none⟩ = some (.string n1) := (G0_10.out).cell 3
  go_wp2_with fail
  refine (markA_any X1M l1.length l1.length m1 s1 e1 n1 X1cs _ X1k_10.out (by rw [X1s.out]; exact Nat.le_refl _) K1.out HM1.out.1 HM1.out.2).mono ?_
  rintro e w11 ⟨rfl, -, ha⟩
  have B11 : Hid (Below w.heap.size w w11) := B10.out.trans (ha.low (by have h0 := Z1.out; have h1 := Z2.out; have h2 := Z3.out; have h3 := Z4.out; have h4 := Z5.out; have h5 := Z6.out; have h6 := Z7.out; have h7 := Z8.out; have h8 := Z9.out; have h9 := Z10.out; have h10 := U_P0.out; have h11 := U_P1.out; have h12 := U_W.out; have h13 := U_X0k.out; have h14 := U_Q0.out; have h15 := U_X1k.out; have h16 := U_Q1.out; have h17 := U_Gk.out; have h18 := U_G0.out; omega) B10.out.size)
  have Z11 : Hid (w10.heap.size ≤ w11.heap.size) := ha.size
  have P0_11 : Hid (Blk w11 w.heap.size #[.slice a0 l0.length cap0, .int .i64 s0, .int .i64 e0, .string n0] 24) := ha.blk P0_10.out (by have h0 := Z1.out; have h1 := Z2.out; have h2 := Z3.out; have h3 := Z4.out; have h4 := Z5.out; have h5 := Z6.out; have h6 := Z7.out; have h7 := Z8.out; have h8 := Z9.out; have h9 := Z10.out; have h10 := Z11.out; have h11 := U_P0.out; have h12 := U_P1.out; have h13 := U_W.out; have h14 := U_X0k.out; have h15 := U_Q0.out; have h16 := U_X1k.out; have h17 := U_Q1.out; have h18 := U_Gk.out; have h19 := U_G0.out; omega)
  have P1_11 : Hid (Blk w11 (w.heap.size + 1) #[.slice a1 l1.length cap1, .int .i64 s1, .int .i64 e1, .string n1] 24) := ha.blk P1_10.out (by have h0 := Z1.out; have h1 := Z2.out; have h2 := Z3.out; have h3 := Z4.out; have h4 := Z5.out; have h5 := Z6.out; have h6 := Z7.out; have h7 := Z8.out; have h8 := Z9.out; have h9 := Z10.out; have h10 := Z11.out; have h11 := U_P0.out; have h12 := U_P1.out; have h13 := U_W.out; have h14 := U_X0k.out; have h15 := U_Q0.out; have h16 := U_X1k.out; have h17 := U_Q1.out; have h18 := U_Gk.out; have h19 := U_G0.out; omega)
  have W0_11 : Hid (Blk w11 WN #[.slice (some ⟨WM, 0, none⟩) l1.length Wc, .int .i64 (startB s0 e0 s1 e1), .int .i64 e1, .string n1] 29) := ha.blk W0_10.out (by have h0 := Z1.out; have h1 := Z2.out; have h2 := Z3.out; have h3 := Z4.out; have h4 := Z5.out; have h5 := Z6.out; have h6 := Z7.out; have h7 := Z8.out; have h8 := Z9.out; have h9 := Z10.out; have h10 := Z11.out; have h11 := U_P0.out; have h12 := U_P1.out; have h13 := U_W.out; have h14 := U_X0k.out; have h15 := U_Q0.out; have h16 := U_X1k.out; have h17 := U_Q1.out; have h18 := U_Gk.out; have h19 := U_G0.out; omega)
  have Wk_11 : Hid (Blk w11 WM Wcs 48) := ha.blk Wk_10.out (by have h0 := Z1.out; have h1 := Z2.out; have h2 := Z3.out; have h3 := Z4.out; have h4 := Z5.out; have h5 := Z6.out; have h6 := Z7.out; have h7 := Z8.out; have h8 := Z9.out; have h9 := Z10.out; have h10 := Z11.out; have h11 := U_P0.out; have h12 := U_P1.out; have h13 := U_W.out; have h14 := U_X0k.out; have h15 := U_Q0.out; have h16 := U_X1k.out; have h17 := U_Q1.out; have h18 := U_Gk.out; have h19 := U_G0.out; omega)
  have Q1_11 : Hid (Blk w11 w5.heap.size #[.slice (some ⟨X1M, 0, none⟩) l1.length l1.length, .int .i64 s1, .int .i64 e1, .string n1] 29) := ha.blk Q1_10.out (by have h0 := Z1.out; have h1 := Z2.out; have h2 := Z3.out; have h3 := Z4.out; have h4 := Z5.out; have h5 := Z6.out; have h6 := Z7.out; have h7 := Z8.out; have h8 := Z9.out; have h9 := Z10.out; have h10 := Z11.out; have h11 := U_P0.out; have h12 := U_P1.out; have h13 := U_W.out; have h14 := U_X0k.out; have h15 := U_Q0.out; have h16 := U_X1k.out; have h17 := U_Q1.out; have h18 := U_Gk.out; have h19 := U_G0.out; omega)
  have Gk_11 : Hid (Blk w11 GM Gcs 48) := ha.blk Gk_10.out (by have h0 := Z1.out; have h1 := Z2.out; have h2 := Z3.out; have h3 := Z4.out; have h4 := Z5.out; have h5 := Z6.out; have h6 := Z7.out; have h7 := Z8.out; have h8 := Z9.out; have h9 := Z10.out; have h10 := Z11.out; have h11 := U_P0.out; have h12 := U_P1.out; have h13 := U_W.out; have h14 := U_X0k.out; have h15 := U_Q0.out; have h16 := U_X1k.out; have h17 := U_Q1.out; have h18 := U_Gk.out; have h19 := U_G0.out; omega)
  have G0_11 : Hid (Blk w11 w6.heap.size #[.slice (some ⟨GM, 0, none⟩) l1.length Gc, .int .i64 (startB s0 e0 s1 e1), .int .i64 e1, .string n1] 29) := ha.blk G0_10.out (by have h0 := Z1.out; have h1 := Z2.out; have h2 := Z3.out; have h3 := Z4.out; have h4 := Z5.out; have h5 := Z6.out; have h6 := Z7.out; have h7 := Z8.out; have h8 := Z9.out; have h9 := Z10.out; have h10 := Z11.out; have h11 := U_P0.out; have h12 := U_P1.out; have h13 := U_W.out; have h14 := U_X0k.out; have h15 := U_Q0.out; have h16 := U_X1k.out; have h17 := U_Q1.out; have h18 := U_Gk.out; have h19 := U_G0.out; omega)
  clear ha cP00 cP01 cP02 cP03 cP10 cP11 cP12 cP13 cW00 cW01 cW02 cW03 cQ10 cQ11 cQ12 cQ13 cG00 cG01 cG02 cG03
  have hq : ¬ ((m1 + 2 * l1.length : Nat) : Int) < 0 := by omega
  generalize m1 + 2 * l1.length = m2 at hq ⊢
  have cP00 : w11.cell? ⟨w.heap.size, 0, none⟩ = some (.slice a0 l0.length cap0) := (P0_11.out).cell 0
  have cP01 : w11.cell? ⟨w.heap.size, 1, none⟩ = some (.int .i64 s0) := (P0_11.out).cell 1
  have cP02 : w11.cell? ⟨w.heap.size, 2, none⟩ = some (.int .i64 e0) := (P0_11.out).cell 2
  have cP03 : w11.cell? ⟨w.heap.size, 3, none⟩ = some (.string n0) := (P0_11.out).cell 3
  have cP10 : w11.cell? ⟨(w.heap.size + 1), 0, none⟩ = some (.slice a1 l1.length cap1) := (P1_11.out).cell 0
  have cP11 : w11.cell? ⟨(w.heap.size + 1), 1, none⟩ = some (.int .i64 s1) := (P1_11.out).cell 1
  have cP12 : w11.cell? ⟨(w.heap.size + 1), 2, none⟩ = some (.int .i64 e1) := (P1_11.out).cell 2
  have cP13 : w11.cell? ⟨(w.heap.size + 1), 3, none⟩ = some (.string n1) := (P1_11.out).cell 3
  have cW00 : w11.cell? ⟨WN, 0, none⟩ = some (.slice (some ⟨WM, 0, none⟩) l1.length Wc) := (W0_11.out).cell 0
  have cW01 : w11.cell? ⟨WN, 1, none⟩ = some (.int .i64 (startB s0 e0 s1 e1)) := (W0_11.out).cell 1
  have cW02 : w11.cell? ⟨WN, 2, none⟩ = some (.int .i64 e1) := (W0_11.out).cell 2
  have cW03 : w11.cell? ⟨WN, 3, none⟩ = some (.string n1) := (W0_11.out).cell 3
  have cG00 : w11.cell? ⟨w6.heap.size, 0, none⟩ = some (.slice (some ⟨GM, 0, none⟩) l1.length Gc) := (G0_11.out).cell 0
  have cG01 : w11.cell? ⟨w6.heap.size, 1, none⟩ = some (.int .i64 (startB s0 e0 s1 e1)) := (G0_11.out).cell 1
  have cG02 : w11.cell? ⟨w6.heap.size, 2, none⟩ = some (.int .i64 e1) := (G0_11.out).cell 2
  have cG03 : w11.cell? ⟨w6.heap.size, 3, none⟩ = some (.string n1) := (G0_11.out).cell 3
  go_wp2_with fail
  refine (Go.Proofs.Ytinegehejinmiab.Alm.eq_any _ _ _ _ l1 l1 (startB s0 e0 s1 e1) e1 (startB s0 e0 s1 e1) e1 n1 n1 _ ((held_reads Gk_11.out Gh.out)) ((held_reads Wk_11.out Wh.out)) M1.out M1.out).mono ?_
  rintro e w12 ⟨rfl, hb⟩
  have B12 : Hid (Below w.heap.size w w12) := grow_on B11.out hb
  have Z12 : Hid (w11.heap.size ≤ w12.heap.size) := hb.size
  have P0_12 : Hid (Blk w12 w.heap.size #[.slice a0 l0.length cap0, .int .i64 s0, .int .i64 e0, .string n0] 24) := P0_11.out.grow hb
  have P1_12 : Hid (Blk w12 (w.heap.size + 1) #[.slice a1 l1.length cap1, .int .i64 s1, .int .i64 e1, .string n1] 24) := P1_11.out.grow hb
  have W0_12 : Hid (Blk w12 WN #[.slice (some ⟨WM, 0, none⟩) l1.length Wc, .int .i64 (startB s0 e0 s1 e1), .int .i64 e1, .string n1] 29) := W0_11.out.grow hb
  have Wk_12 : Hid (Blk w12 WM Wcs 48) := Wk_11.out.grow hb
  have Gk_12 : Hid (Blk w12 GM Gcs 48) := Gk_11.out.grow hb
  have G0_12 : Hid (Blk w12 w6.heap.size #[.slice (some ⟨GM, 0, none⟩) l1.length Gc, .int .i64 (startB s0 e0 s1 e1), .int .i64 e1, .string n1] 29) := G0_11.out.grow hb
  clear hb cP00 cP01 cP02 cP03 cP10 cP11 cP12 cP13 cW00 cW01 cW02 cW03 cG00 cG01 cG02 cG03
  clear hq
  have cP00 : w12.cell? ⟨w.heap.size, 0, none⟩ = some (.slice a0 l0.length cap0) := (P0_12.out).cell 0
  have cP01 : w12.cell? ⟨w.heap.size, 1, none⟩ = some (.int .i64 s0) := (P0_12.out).cell 1
  have cP02 : w12.cell? ⟨w.heap.size, 2, none⟩ = some (.int .i64 e0) := (P0_12.out).cell 2
  have cP03 : w12.cell? ⟨w.heap.size, 3, none⟩ = some (.string n0) := (P0_12.out).cell 3
  have cP10 : w12.cell? ⟨(w.heap.size + 1), 0, none⟩ = some (.slice a1 l1.length cap1) := (P1_12.out).cell 0
  have cP11 : w12.cell? ⟨(w.heap.size + 1), 1, none⟩ = some (.int .i64 s1) := (P1_12.out).cell 1
  have cP12 : w12.cell? ⟨(w.heap.size + 1), 2, none⟩ = some (.int .i64 e1) := (P1_12.out).cell 2
  have cP13 : w12.cell? ⟨(w.heap.size + 1), 3, none⟩ = some (.string n1) := (P1_12.out).cell 3
  have cW00 : w12.cell? ⟨WN, 0, none⟩ = some (.slice (some ⟨WM, 0, none⟩) l1.length Wc) := (W0_12.out).cell 0
  have cW01 : w12.cell? ⟨WN, 1, none⟩ = some (.int .i64 (startB s0 e0 s1 e1)) := (W0_12.out).cell 1
  have cW02 : w12.cell? ⟨WN, 2, none⟩ = some (.int .i64 e1) := (W0_12.out).cell 2
  have cW03 : w12.cell? ⟨WN, 3, none⟩ = some (.string n1) := (W0_12.out).cell 3
  have cG00 : w12.cell? ⟨w6.heap.size, 0, none⟩ = some (.slice (some ⟨GM, 0, none⟩) l1.length Gc) := (G0_12.out).cell 0
  have cG01 : w12.cell? ⟨w6.heap.size, 1, none⟩ = some (.int .i64 (startB s0 e0 s1 e1)) := (G0_12.out).cell 1
  have cG02 : w12.cell? ⟨w6.heap.size, 2, none⟩ = some (.int .i64 e1) := (G0_12.out).cell 2
  have cG03 : w12.cell? ⟨w6.heap.size, 3, none⟩ = some (.string n1) := (G0_12.out).cell 3
  go_wp2_with fail
  refine (markA_any GM l1.length Gc 1 (startB s0 e0 s1 e1) e1 n1 Gcs _ Gk_12.out Gs.out K1.out (by omega) (by omega)).mono ?_
  rintro e w13 ⟨rfl, ⟨Gds, hk, -, hm⟩, ha⟩
  have B13 : Hid (Below w.heap.size w w13) := B12.out.trans (ha.low (by have h0 := Z1.out; have h1 := Z2.out; have h2 := Z3.out; have h3 := Z4.out; have h4 := Z5.out; have h5 := Z6.out; have h6 := Z7.out; have h7 := Z8.out; have h8 := Z9.out; have h9 := Z10.out; have h10 := Z11.out; have h11 := Z12.out; have h12 := U_P0.out; have h13 := U_P1.out; have h14 := U_W.out; have h15 := U_X0k.out; have h16 := U_Q0.out; have h17 := U_X1k.out; have h18 := U_Q1.out; have h19 := U_Gk.out; have h20 := U_G0.out; omega) B12.out.size)
  have Z13 : Hid (w12.heap.size ≤ w13.heap.size) := ha.size
  have P0_13 : Hid (Blk w13 w.heap.size #[.slice a0 l0.length cap0, .int .i64 s0, .int .i64 e0, .string n0] 24) := ha.blk P0_12.out (by have h0 := Z1.out; have h1 := Z2.out; have h2 := Z3.out; have h3 := Z4.out; have h4 := Z5.out; have h5 := Z6.out; have h6 := Z7.out; have h7 := Z8.out; have h8 := Z9.out; have h9 := Z10.out; have h10 := Z11.out; have h11 := Z12.out; have h12 := Z13.out; have h13 := U_P0.out; have h14 := U_P1.out; have h15 := U_W.out; have h16 := U_X0k.out; have h17 := U_Q0.out; have h18 := U_X1k.out; have h19 := U_Q1.out; have h20 := U_Gk.out; have h21 := U_G0.out; omega)
  have P1_13 : Hid (Blk w13 (w.heap.size + 1) #[.slice a1 l1.length cap1, .int .i64 s1, .int .i64 e1, .string n1] 24) := ha.blk P1_12.out (by have h0 := Z1.out; have h1 := Z2.out; have h2 := Z3.out; have h3 := Z4.out; have h4 := Z5.out; have h5 := Z6.out; have h6 := Z7.out; have h7 := Z8.out; have h8 := Z9.out; have h9 := Z10.out; have h10 := Z11.out; have h11 := Z12.out; have h12 := Z13.out; have h13 := U_P0.out; have h14 := U_P1.out; have h15 := U_W.out; have h16 := U_X0k.out; have h17 := U_Q0.out; have h18 := U_X1k.out; have h19 := U_Q1.out; have h20 := U_Gk.out; have h21 := U_G0.out; omega)
  have W0_13 : Hid (Blk w13 WN #[.slice (some ⟨WM, 0, none⟩) l1.length Wc, .int .i64 (startB s0 e0 s1 e1), .int .i64 e1, .string n1] 29) := ha.blk W0_12.out (by have h0 := Z1.out; have h1 := Z2.out; have h2 := Z3.out; have h3 := Z4.out; have h4 := Z5.out; have h5 := Z6.out; have h6 := Z7.out; have h7 := Z8.out; have h8 := Z9.out; have h9 := Z10.out; have h10 := Z11.out; have h11 := Z12.out; have h12 := Z13.out; have h13 := U_P0.out; have h14 := U_P1.out; have h15 := U_W.out; have h16 := U_X0k.out; have h17 := U_Q0.out; have h18 := U_X1k.out; have h19 := U_Q1.out; have h20 := U_Gk.out; have h21 := U_G0.out; omega)
  have Wk_13 : Hid (Blk w13 WM Wcs 48) := ha.blk Wk_12.out (by have h0 := Z1.out; have h1 := Z2.out; have h2 := Z3.out; have h3 := Z4.out; have h4 := Z5.out; have h5 := Z6.out; have h6 := Z7.out; have h7 := Z8.out; have h8 := Z9.out; have h9 := Z10.out; have h10 := Z11.out; have h11 := Z12.out; have h12 := Z13.out; have h13 := U_P0.out; have h14 := U_P1.out; have h15 := U_W.out; have h16 := U_X0k.out; have h17 := U_Q0.out; have h18 := U_X1k.out; have h19 := U_Q1.out; have h20 := U_Gk.out; have h21 := U_G0.out; omega)
  have G0_13 : Hid (Blk w13 w6.heap.size #[.slice (some ⟨GM, 0, none⟩) l1.length Gc, .int .i64 (startB s0 e0 s1 e1), .int .i64 e1, .string n1] 29) := ha.blk G0_12.out (by have h0 := Z1.out; have h1 := Z2.out; have h2 := Z3.out; have h3 := Z4.out; have h4 := Z5.out; have h5 := Z6.out; have h6 := Z7.out; have h7 := Z8.out; have h8 := Z9.out; have h9 := Z10.out; have h10 := Z11.out; have h11 := Z12.out; have h12 := Z13.out; have h13 := U_P0.out; have h14 := U_P1.out; have h15 := U_W.out; have h16 := U_X0k.out; have h17 := U_Q0.out; have h18 := U_X1k.out; have h19 := U_Q1.out; have h20 := U_Gk.out; have h21 := U_G0.out; omega)
  have Hk_13 : Hid (Blk w13 GM Gds 48) := hk
  have HMk : Hid (Marked Gds 1 l1.length) := hm
  clear hk hm
  clear ha cP00 cP01 cP02 cP03 cP10 cP11 cP12 cP13 cW00 cW01 cW02 cW03 cG00 cG01 cG02 cG03
  have hq : ¬ ((1 + 2 * l1.length : Nat) : Int) < 0 := by omega
  have cP00 : w13.cell? ⟨w.heap.size, 0, none⟩ = some (.slice a0 l0.length cap0) := (P0_13.out).cell 0
  have cP01 : w13.cell? ⟨w.heap.size, 1, none⟩ = some (.int .i64 s0) := (P0_13.out).cell 1
  have cP02 : w13.cell? ⟨w.heap.size, 2, none⟩ = some (.int .i64 e0) := (P0_13.out).cell 2
  have cP03 : w13.cell? ⟨w.heap.size, 3, none⟩ = some (.string n0) := (P0_13.out).cell 3
  have cP10 : w13.cell? ⟨(w.heap.size + 1), 0, none⟩ = some (.slice a1 l1.length cap1) := (P1_13.out).cell 0
  have cP11 : w13.cell? ⟨(w.heap.size + 1), 1, none⟩ = some (.int .i64 s1) := (P1_13.out).cell 1
  have cP12 : w13.cell? ⟨(w.heap.size + 1), 2, none⟩ = some (.int .i64 e1) := (P1_13.out).cell 2
  have cP13 : w13.cell? ⟨(w.heap.size + 1), 3, none⟩ = some (.string n1) := (P1_13.out).cell 3
  have cW00 : w13.cell? ⟨WN, 0, none⟩ = some (.slice (some ⟨WM, 0, none⟩) l1.length Wc) := (W0_13.out).cell 0
  have cW01 : w13.cell? ⟨WN, 1, none⟩ = some (.int .i64 (startB s0 e0 s1 e1)) := (W0_13.out).cell 1
  have cW02 : w13.cell? ⟨WN, 2, none⟩ = some (.int .i64 e1) := (W0_13.out).cell 2
  have cW03 : w13.cell? ⟨WN, 3, none⟩ = some (.string n1) := (W0_13.out).cell 3
  have cG00 : w13.cell? ⟨w6.heap.size, 0, none⟩ = some (.slice (some ⟨GM, 0, none⟩) l1.length Gc) := (G0_13.out).cell 0
  have cG01 : w13.cell? ⟨w6.heap.size, 1, none⟩ = some (.int .i64 (startB s0 e0 s1 e1)) := (G0_13.out).cell 1
  have cG02 : w13.cell? ⟨w6.heap.size, 2, none⟩ = some (.int .i64 e1) := (G0_13.out).cell 2
  have cG03 : w13.cell? ⟨w6.heap.size, 3, none⟩ = some (.string n1) := (G0_13.out).cell 3
  go_wp2_with fail
  refine (heldA_any GM l1.length Gc 1 (startB s0 e0 s1 e1) e1 n1 Gds _ Hk_13.out HMk.out K1.out (by omega) (by omega)).mono ?_
  rintro e w14 ⟨rfl, hb⟩
  have B14 : Hid (Below w.heap.size w w14) := grow_on B13.out hb
  have Z14 : Hid (w13.heap.size ≤ w14.heap.size) := hb.size
  have P0_14 : Hid (Blk w14 w.heap.size #[.slice a0 l0.length cap0, .int .i64 s0, .int .i64 e0, .string n0] 24) := P0_13.out.grow hb
  have P1_14 : Hid (Blk w14 (w.heap.size + 1) #[.slice a1 l1.length cap1, .int .i64 s1, .int .i64 e1, .string n1] 24) := P1_13.out.grow hb
  have W0_14 : Hid (Blk w14 WN #[.slice (some ⟨WM, 0, none⟩) l1.length Wc, .int .i64 (startB s0 e0 s1 e1), .int .i64 e1, .string n1] 29) := W0_13.out.grow hb
  have Wk_14 : Hid (Blk w14 WM Wcs 48) := Wk_13.out.grow hb
  have G0_14 : Hid (Blk w14 w6.heap.size #[.slice (some ⟨GM, 0, none⟩) l1.length Gc, .int .i64 (startB s0 e0 s1 e1), .int .i64 e1, .string n1] 29) := G0_13.out.grow hb
  have Hk_14 : Hid (Blk w14 GM Gds 48) := Hk_13.out.grow hb
  clear hb cP00 cP01 cP02 cP03 cP10 cP11 cP12 cP13 cW00 cW01 cW02 cW03 cG00 cG01 cG02 cG03
  have cP00 : w14.cell? ⟨w.heap.size, 0, none⟩ = some (.slice a0 l0.length cap0) := (P0_14.out).cell 0
  have cP01 : w14.cell? ⟨w.heap.size, 1, none⟩ = some (.int .i64 s0) := (P0_14.out).cell 1
  have cP02 : w14.cell? ⟨w.heap.size, 2, none⟩ = some (.int .i64 e0) := (P0_14.out).cell 2
  have cP03 : w14.cell? ⟨w.heap.size, 3, none⟩ = some (.string n0) := (P0_14.out).cell 3
  have cP10 : w14.cell? ⟨(w.heap.size + 1), 0, none⟩ = some (.slice a1 l1.length cap1) := (P1_14.out).cell 0
  have cP11 : w14.cell? ⟨(w.heap.size + 1), 1, none⟩ = some (.int .i64 s1) := (P1_14.out).cell 1
  have cP12 : w14.cell? ⟨(w.heap.size + 1), 2, none⟩ = some (.int .i64 e1) := (P1_14.out).cell 2
  have cP13 : w14.cell? ⟨(w.heap.size + 1), 3, none⟩ = some (.string n1) := (P1_14.out).cell 3
  go_upto_region 31 with fail
  have kz : Below w14.heap.size w14 w14.drew := (Below.refl _ _).drew
  have kP0 := P0_14.out.lt
  have kP1 := P1_14.out.lt
  have HS : Hid (∀ w', Below w14.heap.size w14 w' → Below w14.heap.size w14 w' ∧ w'.cell? ⟨w.heap.size, 0, none⟩ = some (.slice a0 l0.length cap0) ∧ w'.cell? ⟨w.heap.size, 1, none⟩ = some (.int .i64 s0) ∧ w'.cell? ⟨w.heap.size, 2, none⟩ = some (.int .i64 e0) ∧ w'.cell? ⟨w.heap.size, 3, none⟩ = some (.string n0) ∧ w'.cell? ⟨(w.heap.size + 1), 0, none⟩ = some (.slice a1 l1.length cap1) ∧ w'.cell? ⟨(w.heap.size + 1), 1, none⟩ = some (.int .i64 s1) ∧ w'.cell? ⟨(w.heap.size + 1), 2, none⟩ = some (.int .i64 e1) ∧ w'.cell? ⟨(w.heap.size + 1), 3, none⟩ = some (.string n1)) := fun w' h => ⟨h, (h.cell kP0).trans cP00, (h.cell kP0).trans cP01, (h.cell kP0).trans cP02, (h.cell kP0).trans cP03, (h.cell kP1).trans cP10, (h.cell kP1).trans cP11, (h.cell kP1).trans cP12, (h.cell kP1).trans cP13⟩
  go_cut [13] (fun s13 wx => ∃ (N M c : Nat) (cs : Array Value), s13 = .pointer (some ⟨N, 0, none⟩) ∧ Blk wx N #[.slice (some ⟨M, 0, none⟩) l1.length c, .int .i64 (startB s0 e0 s1 e1), .int .i64 e1, .string n1] 29 ∧ (w14.heap.size ≤ N ∧ w14.heap.size ≤ M ∧ N ≠ M) ∧ Blk wx M cs 48 ∧ l1.length * 2 ≤ cs.size ∧ Held cs l1 l1.length ∧ Below w14.heap.size w14 wx)
  case first =>
    go_region_held3 (fun w' => Below w14.heap.size w14 w' ∧ w'.cell? ⟨w.heap.size, 0, none⟩ = some (.slice a0 l0.length cap0) ∧ w'.cell? ⟨w.heap.size, 1, none⟩ = some (.int .i64 s0) ∧ w'.cell? ⟨w.heap.size, 2, none⟩ = some (.int .i64 e0) ∧ w'.cell? ⟨w.heap.size, 3, none⟩ = some (.string n0) ∧ w'.cell? ⟨(w.heap.size + 1), 0, none⟩ = some (.slice a1 l1.length cap1) ∧ w'.cell? ⟨(w.heap.size + 1), 1, none⟩ = some (.int .i64 s1) ∧ w'.cell? ⟨(w.heap.size + 1), 2, none⟩ = some (.int .i64 e1) ∧ w'.cell? ⟨(w.heap.size + 1), 3, none⟩ = some (.string n1)) (first | with_reducible exact HS.out _ kz | with_reducible exact HS.out _ (bel_alloc kz _) | with_reducible exact HS.out _ (Below.drew (bel_alloc (Below.refl _ _) _)) | with_reducible exact HS.out _ (bel_alloc (Below.refl _ _) _) | with_reducible exact HS.out _ hz0 | with_reducible exact HS.out _ hz1 | with_reducible exact HS.out _ hz2 | with_reducible exact HS.out _ (bel_alloc hz0 _) | with_reducible exact HS.out _ (bel_alloc hz1 _) | with_reducible exact HS.out _ (bel_alloc hz2 _) | with_reducible exact HS.out _ (Alm.set4 hz2 (Nat.le_refl _) _ _ _ _) | with_reducible exact HS.out _ (Alm.set4 hz2 hz0.size _ _ _ _) | with_reducible exact HS.out _ (Alm.set4 hz2 hz1.size _ _ _ _) | (go_keep; done)) (first | (go_at_call 9; go_split_ands; with_reducible refine (Go.Proofs.Ytinegehejinmiab.Alm.to_any a0 cap0 l0 s0 e0 n0 _ (R0.out.below (grow_on B14.out (by assumption))) K0.out).mono ?_; rintro e wy0 ⟨⟨T0, cs0, rfl, -, hk0, -, hh0⟩, hy0⟩; (have hz0 : Below w14.heap.size w14 wy0 := grow_on (by assumption) hy0); (first | with_reducible have nb0 := Blk.grow (Blk.new _ _ _) hy0 | with_reducible have nb0 := Blk.grow (Blk.drew (Blk.new _ _ _)) hy0 | skip)) | (go_at_call 9; go_split_ands; with_reducible refine (Go.Proofs.Ytinegehejinmiab.Alm.to_any a1 cap1 l1 s1 e1 n1 _ (R1.out.below (grow_on B14.out (by assumption))) K1.out).mono ?_; rintro e wy1 ⟨⟨T1, cs1, rfl, -, hk1, -, hh1⟩, hy1⟩; (have hz1 : Below w14.heap.size w14 wy1 := grow_on (by assumption) hy1); (first | with_reducible have nb1 := Blk.grow (Blk.new _ _ _) hy1 | with_reducible have nb1 := Blk.grow (Blk.drew (Blk.new _ _ _)) hy1 | with_reducible have nb1 := Blk.grow nb0 hy1 | skip)) | (go_at_call 17; go_split_ands; refine (implMerge_any _ _ _ s0 e0 n0 _ _ _ l1 s1 e1 n1 _ (by first | exact held_reads hk1 hh1 | exact (held_reads hk1 hh1).below (bel_alloc (Below.refl _ _) _)) K1.out).mono ?_; rintro e w15 ⟨⟨VM, Vc, rfl, hOM, Vcs, hO1, hO2, hO3⟩, hy2⟩; (have hz2 : Below w14.heap.size w14 w15 := grow_on (by assumption) hy2); (first | with_reducible have nb2 := Blk.grow (Blk.new _ _ _) hy2 | with_reducible have nb2 := Blk.grow (Blk.drew (Blk.new _ _ _)) hy2 | with_reducible have nb2 := Blk.grow nb1 hy2 | skip); (try (have nc0 : w15.cell? ⟨_, 0, none⟩ = some (.slice none 0 0) := nb2.cell 0; have nc1 : w15.cell? ⟨_, 1, none⟩ = some (.int .i64 0) := nb2.cell 1; have nc2 : w15.cell? ⟨_, 2, none⟩ = some (.int .i64 0) := nb2.cell 2; have nc3 : w15.cell? ⟨_, 3, none⟩ = some (.string ⟨#[]⟩) := nb2.cell 3; have nf0 := nb2.frozen 0; have nf1 := nb2.frozen 1; have nf2 := nb2.frozen 2; have nf3 := nb2.frozen 3))))
    all_goals (go_wp2_with fail)
    all_goals go_meet
    all_goals (have q0 := hz0.size; have q1 := hz1.size; have q2 := hz2.size; have q3 := hO1.lt; have q6 := hy1.size; (try simp at q6); (try have q4 := nb0.lt); (try have q5 := nb1.lt); (try simp at hOM); refine ⟨_, VM, Vc, Vcs, rfl, ?_, ⟨?_, ?_, ?_⟩, ?_, hO2, hO3, ?_⟩; (· with_reducible first | exact Blk.new _ _ _ | exact Alm.put4 nb2 _ _ _ _); (· omega); (· omega); (· omega); (· with_reducible first | exact hO1.alloc _ | exact Alm.blk4 hO1 (by omega) _ _ _ _); (· with_reducible first | exact bel_alloc hz2 _ | exact Alm.set4 hz2 (by omega) _ _ _ _))
  case rest =>
  obtain ⟨VN, VM, Vc, Vcs, rfl, hW1, hW2, hW3, hW4, hW5, hb⟩ := hcut
  obtain ⟨w15, hwc⟩ : ∃ x, x = wc := ⟨_, rfl⟩
  subst hwc
  have V0_15 : Hid (Blk w15 VN #[.slice (some ⟨VM, 0, none⟩) l1.length Vc, .int .i64 (startB s0 e0 s1 e1), .int .i64 e1, .string n1] 29) := hW1
  have Vk_15 : Hid (Blk w15 VM Vcs 48) := hW3
  have Vs : Hid (l1.length * 2 ≤ Vcs.size) := hW4
  have Vh : Hid (Held Vcs l1 l1.length) := hW5
  have U_V : Hid (w14.heap.size ≤ VN ∧ w14.heap.size ≤ VM ∧ VN ≠ VM ∧ VN < w15.heap.size ∧ VM < w15.heap.size) := ⟨hW2.1, hW2.2.1, hW2.2.2, hW1.lt, hW3.lt⟩
  have B15 : Hid (Below w.heap.size w w15) := grow_on B14.out hb
  have Z15 : Hid (w14.heap.size ≤ w15.heap.size) := hb.size
  have P0_15 : Hid (Blk w15 w.heap.size #[.slice a0 l0.length cap0, .int .i64 s0, .int .i64 e0, .string n0] 24) := P0_14.out.grow hb
  have P1_15 : Hid (Blk w15 (w.heap.size + 1) #[.slice a1 l1.length cap1, .int .i64 s1, .int .i64 e1, .string n1] 24) := P1_14.out.grow hb
  have W0_15 : Hid (Blk w15 WN #[.slice (some ⟨WM, 0, none⟩) l1.length Wc, .int .i64 (startB s0 e0 s1 e1), .int .i64 e1, .string n1] 29) := W0_14.out.grow hb
  have Wk_15 : Hid (Blk w15 WM Wcs 48) := Wk_14.out.grow hb
  have G0_15 : Hid (Blk w15 w6.heap.size #[.slice (some ⟨GM, 0, none⟩) l1.length Gc, .int .i64 (startB s0 e0 s1 e1), .int .i64 e1, .string n1] 29) := G0_14.out.grow hb
  have Hk_15 : Hid (Blk w15 GM Gds 48) := Hk_14.out.grow hb
  clear hb kz HS hW1 hW2 hW3 hW4 hW5 kP0 kP1 cP00 cP01 cP02 cP03 cP10 cP11 cP12 cP13
  have cP00 : w15.cell? ⟨w.heap.size, 0, none⟩ = some (.slice a0 l0.length cap0) := (P0_15.out).cell 0
  have cP01 : w15.cell? ⟨w.heap.size, 1, none⟩ = some (.int .i64 s0) := (P0_15.out).cell 1
  have cP02 : w15.cell? ⟨w.heap.size, 2, none⟩ = some (.int .i64 e0) := (P0_15.out).cell 2
  have cP03 : w15.cell? ⟨w.heap.size, 3, none⟩ = some (.string n0) := (P0_15.out).cell 3
  have cP10 : w15.cell? ⟨(w.heap.size + 1), 0, none⟩ = some (.slice a1 l1.length cap1) := (P1_15.out).cell 0
  have cP11 : w15.cell? ⟨(w.heap.size + 1), 1, none⟩ = some (.int .i64 s1) := (P1_15.out).cell 1
  have cP12 : w15.cell? ⟨(w.heap.size + 1), 2, none⟩ = some (.int .i64 e1) := (P1_15.out).cell 2
  have cP13 : w15.cell? ⟨(w.heap.size + 1), 3, none⟩ = some (.string n1) := (P1_15.out).cell 3
  have cW00 : w15.cell? ⟨WN, 0, none⟩ = some (.slice (some ⟨WM, 0, none⟩) l1.length Wc) := (W0_15.out).cell 0
  have cW01 : w15.cell? ⟨WN, 1, none⟩ = some (.int .i64 (startB s0 e0 s1 e1)) := (W0_15.out).cell 1
  have cW02 : w15.cell? ⟨WN, 2, none⟩ = some (.int .i64 e1) := (W0_15.out).cell 2
  have cW03 : w15.cell? ⟨WN, 3, none⟩ = some (.string n1) := (W0_15.out).cell 3
  have cG00 : w15.cell? ⟨w6.heap.size, 0, none⟩ = some (.slice (some ⟨GM, 0, none⟩) l1.length Gc) := (G0_15.out).cell 0
  have cG01 : w15.cell? ⟨w6.heap.size, 1, none⟩ = some (.int .i64 (startB s0 e0 s1 e1)) := (G0_15.out).cell 1
  have cG02 : w15.cell? ⟨w6.heap.size, 2, none⟩ = some (.int .i64 e1) := (G0_15.out).cell 2
  have cG03 : w15.cell? ⟨w6.heap.size, 3, none⟩ = some (.string n1) := (G0_15.out).cell 3
  have cV00 : w15.cell? ⟨VN, 0, none⟩ = some (.slice (some ⟨VM, 0, none⟩) l1.length Vc) := (V0_15.out).cell 0
  have cV01 : w15.cell? ⟨VN, 1, none⟩ = some (.int .i64 (startB s0 e0 s1 e1)) := (V0_15.out).cell 1
  have cV02 : w15.cell? ⟨VN, 2, none⟩ = some (.int .i64 e1) := (V0_15.out).cell 2
  have cV03 : w15.cell? ⟨VN, 3, none⟩ = some (.string n1) := (V0_15.out).cell 3
  go_wp2_with fail
  refine (Go.Proofs.Ytinegehejinmiab.Alm.eq_any _ _ _ _ l1 l1 (startB s0 e0 s1 e1) e1 (startB s0 e0 s1 e1) e1 n1 n1 _ (held_reads Vk_15.out Vh.out) (held_reads Wk_15.out Wh.out) M1.out M1.out).mono ?_
  rintro e w16 ⟨rfl, hb⟩
  have B16 : Hid (Below w.heap.size w w16) := grow_on B15.out hb
  have Z16 : Hid (w15.heap.size ≤ w16.heap.size) := hb.size
  have P0_16 : Hid (Blk w16 w.heap.size #[.slice a0 l0.length cap0, .int .i64 s0, .int .i64 e0, .string n0] 24) := P0_15.out.grow hb
  have P1_16 : Hid (Blk w16 (w.heap.size + 1) #[.slice a1 l1.length cap1, .int .i64 s1, .int .i64 e1, .string n1] 24) := P1_15.out.grow hb
  have W0_16 : Hid (Blk w16 WN #[.slice (some ⟨WM, 0, none⟩) l1.length Wc, .int .i64 (startB s0 e0 s1 e1), .int .i64 e1, .string n1] 29) := W0_15.out.grow hb
  have Wk_16 : Hid (Blk w16 WM Wcs 48) := Wk_15.out.grow hb
  have G0_16 : Hid (Blk w16 w6.heap.size #[.slice (some ⟨GM, 0, none⟩) l1.length Gc, .int .i64 (startB s0 e0 s1 e1), .int .i64 e1, .string n1] 29) := G0_15.out.grow hb
  have Hk_16 : Hid (Blk w16 GM Gds 48) := Hk_15.out.grow hb
  have V0_16 : Hid (Blk w16 VN #[.slice (some ⟨VM, 0, none⟩) l1.length Vc, .int .i64 (startB s0 e0 s1 e1), .int .i64 e1, .string n1] 29) := V0_15.out.grow hb
  have Vk_16 : Hid (Blk w16 VM Vcs 48) := Vk_15.out.grow hb
  clear hb cP00 cP01 cP02 cP03 cP10 cP11 cP12 cP13 cW00 cW01 cW02 cW03 cG00 cG01 cG02 cG03 cV00 cV01 cV02 cV03
  have hq : ¬ ((1 + 2 * l1.length : Nat) : Int) < 0 := by omega
  have cP00 : w16.cell? ⟨w.heap.size, 0, none⟩ = some (.slice a0 l0.length cap0) := (P0_16.out).cell 0
  have cP01 : w16.cell? ⟨w.heap.size, 1, none⟩ = some (.int .i64 s0) := (P0_16.out).cell 1
  have cP02 : w16.cell? ⟨w.heap.size, 2, none⟩ = some (.int .i64 e0) := (P0_16.out).cell 2
  have cP03 : w16.cell? ⟨w.heap.size, 3, none⟩ = some (.string n0) := (P0_16.out).cell 3
  have cP10 : w16.cell? ⟨(w.heap.size + 1), 0, none⟩ = some (.slice a1 l1.length cap1) := (P1_16.out).cell 0
  have cP11 : w16.cell? ⟨(w.heap.size + 1), 1, none⟩ = some (.int .i64 s1) := (P1_16.out).cell 1
  have cP12 : w16.cell? ⟨(w.heap.size + 1), 2, none⟩ = some (.int .i64 e1) := (P1_16.out).cell 2
  have cP13 : w16.cell? ⟨(w.heap.size + 1), 3, none⟩ = some (.string n1) := (P1_16.out).cell 3
  have cW00 : w16.cell? ⟨WN, 0, none⟩ = some (.slice (some ⟨WM, 0, none⟩) l1.length Wc) := (W0_16.out).cell 0
  have cW01 : w16.cell? ⟨WN, 1, none⟩ = some (.int .i64 (startB s0 e0 s1 e1)) := (W0_16.out).cell 1
  have cW02 : w16.cell? ⟨WN, 2, none⟩ = some (.int .i64 e1) := (W0_16.out).cell 2
  have cW03 : w16.cell? ⟨WN, 3, none⟩ = some (.string n1) := (W0_16.out).cell 3
  have cG00 : w16.cell? ⟨w6.heap.size, 0, none⟩ = some (.slice (some ⟨GM, 0, none⟩) l1.length Gc) := (G0_16.out).cell 0
  have cG01 : w16.cell? ⟨w6.heap.size, 1, none⟩ = some (.int .i64 (startB s0 e0 s1 e1)) := (G0_16.out).cell 1
  have cG02 : w16.cell? ⟨w6.heap.size, 2, none⟩ = some (.int .i64 e1) := (G0_16.out).cell 2
  have cG03 : w16.cell? ⟨w6.heap.size, 3, none⟩ = some (.string n1) := (G0_16.out).cell 3
  have cV00 : w16.cell? ⟨VN, 0, none⟩ = some (.slice (some ⟨VM, 0, none⟩) l1.length Vc) := (V0_16.out).cell 0
  have cV01 : w16.cell? ⟨VN, 1, none⟩ = some (.int .i64 (startB s0 e0 s1 e1)) := (V0_16.out).cell 1
  have cV02 : w16.cell? ⟨VN, 2, none⟩ = some (.int .i64 e1) := (V0_16.out).cell 2
  have cV03 : w16.cell? ⟨VN, 3, none⟩ = some (.string n1) := (V0_16.out).cell 3
  go_wp2_with fail
  refine (heldA_any GM l1.length Gc 1 (startB s0 e0 s1 e1) e1 n1 Gds _ Hk_16.out HMk.out K1.out (by omega) (by omega)).mono ?_
  rintro e w17 ⟨rfl, hb⟩
  have B17 : Hid (Below w.heap.size w w17) := grow_on B16.out hb
  have Z17 : Hid (w16.heap.size ≤ w17.heap.size) := hb.size
  have P0_17 : Hid (Blk w17 w.heap.size #[.slice a0 l0.length cap0, .int .i64 s0, .int .i64 e0, .string n0] 24) := P0_16.out.grow hb
  have P1_17 : Hid (Blk w17 (w.heap.size + 1) #[.slice a1 l1.length cap1, .int .i64 s1, .int .i64 e1, .string n1] 24) := P1_16.out.grow hb
  have W0_17 : Hid (Blk w17 WN #[.slice (some ⟨WM, 0, none⟩) l1.length Wc, .int .i64 (startB s0 e0 s1 e1), .int .i64 e1, .string n1] 29) := W0_16.out.grow hb
  have Wk_17 : Hid (Blk w17 WM Wcs 48) := Wk_16.out.grow hb
  have G0_17 : Hid (Blk w17 w6.heap.size #[.slice (some ⟨GM, 0, none⟩) l1.length Gc, .int .i64 (startB s0 e0 s1 e1), .int .i64 e1, .string n1] 29) := G0_16.out.grow hb
  have Hk_17 : Hid (Blk w17 GM Gds 48) := Hk_16.out.grow hb
  have V0_17 : Hid (Blk w17 VN #[.slice (some ⟨VM, 0, none⟩) l1.length Vc, .int .i64 (startB s0 e0 s1 e1), .int .i64 e1, .string n1] 29) := V0_16.out.grow hb
  have Vk_17 : Hid (Blk w17 VM Vcs 48) := Vk_16.out.grow hb
  clear hb cP00 cP01 cP02 cP03 cP10 cP11 cP12 cP13 cW00 cW01 cW02 cW03 cG00 cG01 cG02 cG03 cV00 cV01 cV02 cV03
  have cP00 : w17.cell? ⟨w.heap.size, 0, none⟩ = some (.slice a0 l0.length cap0) := (P0_17.out).cell 0
  have cP01 : w17.cell? ⟨w.heap.size, 1, none⟩ = some (.int .i64 s0) := (P0_17.out).cell 1
  have cP02 : w17.cell? ⟨w.heap.size, 2, none⟩ = some (.int .i64 e0) := (P0_17.out).cell 2
  have cP03 : w17.cell? ⟨w.heap.size, 3, none⟩ = some (.string n0) := (P0_17.out).cell 3
  have cP10 : w17.cell? ⟨(w.heap.size + 1), 0, none⟩ = some (.slice a1 l1.length cap1) := (P1_17.out).cell 0
  have cP11 : w17.cell? ⟨(w.heap.size + 1), 1, none⟩ = some (.int .i64 s1) := (P1_17.out).cell 1
  have cP12 : w17.cell? ⟨(w.heap.size + 1), 2, none⟩ = some (.int .i64 e1) := (P1_17.out).cell 2
  have cP13 : w17.cell? ⟨(w.heap.size + 1), 3, none⟩ = some (.string n1) := (P1_17.out).cell 3
  have cW00 : w17.cell? ⟨WN, 0, none⟩ = some (.slice (some ⟨WM, 0, none⟩) l1.length Wc) := (W0_17.out).cell 0
  have cW01 : w17.cell? ⟨WN, 1, none⟩ = some (.int .i64 (startB s0 e0 s1 e1)) := (W0_17.out).cell 1
  have cW02 : w17.cell? ⟨WN, 2, none⟩ = some (.int .i64 e1) := (W0_17.out).cell 2
  have cW03 : w17.cell? ⟨WN, 3, none⟩ = some (.string n1) := (W0_17.out).cell 3
  have cG00 : w17.cell? ⟨w6.heap.size, 0, none⟩ = some (.slice (some ⟨GM, 0, none⟩) l1.length Gc) := (G0_17.out).cell 0
  have cG01 : w17.cell? ⟨w6.heap.size, 1, none⟩ = some (.int .i64 (startB s0 e0 s1 e1)) := (G0_17.out).cell 1
  have cG02 : w17.cell? ⟨w6.heap.size, 2, none⟩ = some (.int .i64 e1) := (G0_17.out).cell 2
  have cG03 : w17.cell? ⟨w6.heap.size, 3, none⟩ = some (.string n1) := (G0_17.out).cell 3
  have cV00 : w17.cell? ⟨VN, 0, none⟩ = some (.slice (some ⟨VM, 0, none⟩) l1.length Vc) := (V0_17.out).cell 0
  have cV01 : w17.cell? ⟨VN, 1, none⟩ = some (.int .i64 (startB s0 e0 s1 e1)) := (V0_17.out).cell 1
  have cV02 : w17.cell? ⟨VN, 2, none⟩ = some (.int .i64 e1) := (V0_17.out).cell 2
  have cV03 : w17.cell? ⟨VN, 3, none⟩ = some (.string n1) := (V0_17.out).cell 3
  go_wp2
  go_ret
  exact ⟨rfl, B17.out⟩
theorem own : ownKnob Try.prog.godebug = none := by kernel_rfl
theorem laidOut : laidOutB Try.prog = true := by kernel_rfl
set_option maxRecDepth 100000 in
theorem lifted (os : Os) (started : os.Started) (H : Type) (enc : TypeId × Value → H) :
    ReturnsInHanded {} Try.checked os 6 .any (Rows.fnExactMergeSpec.pre6 enc Try.prog Try.f6 Rows.fnExactMergeRow.domain false) (Rows.fnExactMergeSpec.post enc Try.prog Try.f6 false true false false) := by
  refine returnsInHanded_of_change (C := Try.checked) own started (by kernel_rfl) Try.func6
    (ChangeSpec.witness6 (enc := enc) (C := Try.checked) false ⟨#[], #[.agg #[.slice none 0 0, .int .i64 0, .int .i64 0, .string ⟨#[]⟩], .agg #[.slice none 0 0, .int .i64 0, .int .i64 0, .string ⟨#[]⟩]], []⟩ 8 (by kernel_rfl) (by kernel_rfl) (by kernel_rfl) (by kernel_rfl)) ?_
  intro W base args ds gs before hval0 hW hcnd _
  have hval : ∀ (j : Nat) t v, Try.f6.params[j]? = some t → args[j]? = some v → Value.okWide Try.prog W .any base t v := hval0
  have hW' := hW
  obtain ⟨p, q, hA0, hV, rfl, hfz, hnd⟩ := hW
  have hA : DataW.TrodAll enc Try.prog W 0 (fun _ => true) true Try.f6.params.toList args.toList ds p := hA0
  rw [Try.params6] at hA hval
  obtain ⟨v0, vs0, d0, ds0, p0, q0, hargs, rfl, rfl, h0, r0⟩ := trodAll_cons hA
  obtain ⟨v1, vs1, d1, ds1, p1, q1, rfl, rfl, rfl, h1, r1⟩ := trodAll_cons r0
  obtain ⟨rfl, rfl, rfl⟩ := trodAll_nil r1
  obtain rfl : args = #[v0, v1] := by cases args; simp_all
  obtain ⟨rfl, rfl⟩ := trodVars_none hV
  have k0 := h0
  have lt0 : ∀ x ∈ p0, x.block < W.heap.size := by obtain ⟨m, hm⟩ := k0; exact DataW.trod_lt m _ _ _ hm
  obtain ⟨a0, cap0, l0, s0, e0, n0, rfl, w0⟩ := Go.Proofs.Ytinegehejinmiab.Alm.open_alarm (hval 0 24 v0 rfl rfl) h0
  have k1 := h1
  have lt1 : ∀ x ∈ p1, x.block < W.heap.size := by obtain ⟨m, hm⟩ := k1; exact DataW.trod_lt m _ _ _ hm
  obtain ⟨a1, cap1, l1, s1, e1, n1, rfl, w1⟩ := Go.Proofs.Ytinegehejinmiab.Alm.open_alarm (hval 1 24 v1 rfl rfl) h1
  clear hA0 hval0
  refine (walk a0 cap0 l0 s0 e0 n0 a1 cap1 l1 s1 e1 n1 W w0 w1).mono fun e W' ⟨he, bel⟩ => ?_
  subst he
  exact ⟨_, rfl, _, _, _, [], _, [], hW', trodAll_mk1 (shut_bool Try.underlying4 _), (trodAll_cons_mk (Below.trod laidOut (by kernel_rfl) (of_decide_eq_true (by kernel_rfl)) k0 bel lt0) (trodAll_cons_mk (Below.trod laidOut (by kernel_rfl) (of_decide_eq_true (by kernel_rfl)) k1 bel lt1) trodAll_mk0)), rfl, bel.frame _, fun h => by cases h⟩

theorem over : Rows.fnExactMergeRow.holds Try.pinned (OpenSpec.ofChange Rows.fnExactMergeSpec) :=
  OpenClaim.holds_of_wide 6 Try.f6 rfl rfl rfl rfl rfl rfl rfl ⟨rfl, rfl, rfl, rfl, rfl⟩ rfl rfl rfl rfl rfl (by kernel_rfl) Try.func6 (by kernel_rfl)
    (of_decide_eq_true (by kernel_rfl)) (by unfold Func.isWrapper; first | (rw [if_pos (by decide +kernel)]; kernel_rfl) | (rw [if_neg (by decide +kernel)]; exact ⟨rfl, rfl⟩))
    (fun os started H enc _ => lifted os started H enc)

end Go.Proofs.Ytinegehejinmiab.FnExactMerge
namespace Go.Proofs.Ytinegehejinmiab
theorem fnExactMerge_holds : Rows.FnExactMergeSaid := FnExactMerge.over
#print axioms fnExactMerge_holds
end Go.Proofs.Ytinegehejinmiab
