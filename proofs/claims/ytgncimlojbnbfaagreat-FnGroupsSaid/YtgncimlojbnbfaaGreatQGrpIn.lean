/-
  PROVED: impl.JoinIn of a group whose slice of alarms is none answers a group with that alarm alone, in memory of its own; nothing that was there is changed.
-/
import Derived.Test.YtgncimlojbnbfaaGreatQTk
import Derived.Test.YtgncimlojbnbfaaGreatQGrpI
set_option linter.unusedVariables false
namespace Go.Proofs.YtgncimlojbnbfaaGreat.GrpIn
open Go.RowKit
open Labs LabS Alms AlmS AlmM Over Blk App Rws ChnI ChnC ChnK Grp GrpO GrpG GrpJ GrpL GrpI
open GrpP (placeG place_any)
def piecesN (N : Nat) (x : PAl) : List Pc := [(none, 0, []), (some ⟨N, 0, none⟩, 1, [x]), (none, 0, [])]
theorem upto_N (N : Nat) (x : PAl) : upto (piecesN N x) 3 = [x] := by simp [upto, piecesN]
theorem place_nil (l : List Lab) : placeG [] l = (0, 0) := by simp [placeG, GrpP.aheadA]
set_option maxRecDepth 100000 in
set_option maxHeartbeats 6400000 in
theorem implJoin_nil (n b t : Int) (gk ok kc : Nat) (key : List Lab) (gx ox cx : Nat) (x : PAl) (w : World) (hk : Reads w (some ⟨gk, ok, none⟩) key) (hkl : key.length ≤ 1048576) (hx : Reads w (some ⟨gx, ox, none⟩) x.l) (hxl : x.l.length ≤ 1048576) :
    Calls Tryz.prog 32 #[.agg #[.int .i64 n, .slice (some ⟨gk, ok, none⟩) key.length kc, .int .i64 b, .int .i64 t, .slice none 0 0], .agg #[.slice (some ⟨gx, ox, none⟩) x.l.length cx, .int .i64 x.s, .int .i64 x.e, .string x.n]] w fun e w' => (∃ Ke kd M o c rs, e = .returned (.agg #[.int .i64 n, .slice (some ⟨Ke, 0, none⟩) key.length kd, .int .i64 b, .int .i64 t, .slice (some ⟨M, o, none⟩) rs.length c]) ∧ GB w.heap.size w' Ke key M o rs ∧ pals rs = [x]) ∧ Below w.heap.size w w' := by
  have HK : Hid (Reads w (some ⟨gk, ok, none⟩) key) := hk
  have HX : Hid (Reads w (some ⟨gx, ox, none⟩) x.l ∧ x.l.length ≤ 1048576) := ⟨hx, hxl⟩
  clear hk hx hxl
  generalize hW0 : ((w.alloc (.cells #[.int .i64 n, .slice (some ⟨gk, ok, none⟩) key.length kc, .int .i64 b, .int .i64 t, .slice none 0 0] 53)).alloc (.cells #[.slice (some ⟨gx, ox, none⟩) x.l.length cx, .int .i64 x.s, .int .i64 x.e, .string x.n] 27)).alloc (.cells #[.int .i64 0, .slice none 0 0, .int .i64 0, .int .i64 0, .slice none 0 0] 53) = W0
  have HB0 : Hid (Below w.heap.size w W0) := by rw [← hW0]; exact Alm.below3 w _ _ _
  have BP0 : Hid (Blk W0 w.heap.size #[.int .i64 n, .slice (some ⟨gk, ok, none⟩) key.length kc, .int .i64 b, .int .i64 t, .slice none 0 0] 53) := by rw [← hW0]; exact ((Blk.new _ _ _).alloc _).alloc _
  have BQ0 : Hid (Blk W0 (w.heap.size + 1) #[.slice (some ⟨gx, ox, none⟩) x.l.length cx, .int .i64 x.s, .int .i64 x.e, .string x.n] 27) := by rw [← hW0]; exact (Blk.new_at (by simp)).alloc _
  have BR0 : Hid (Blk W0 (w.heap.size + 1 + 1) #[.int .i64 0, .slice none 0 0, .int .i64 0, .int .i64 0, .slice none 0 0] 53) := by rw [← hW0]; exact Blk.new_at (by simp)
  have HZ : Hid (W0.heap.size = w.heap.size + 3) := by show _ = _; rw [← hW0]; simp
  have HPL : Hid (Calls Tryz.prog 60 #[.slice none 0 0, .slice (some ⟨gx, ox, none⟩) x.l.length cx] W0 fun e w' => e = .returned (.tuple #[.int .i64 0, .int .i64 0]) ∧ Below W0.heap.size W0 w') := by
    have h := place_any none (some ⟨gx, ox, none⟩) 0 cx [] x.l W0 (.inl rfl) (HX.out.1.below HB0.out) (by have := HX.out.2; unfold maxLen; omega) (by simp) (fun i hi => by simp at hi)
    rw [place_nil] at h
    exact h
  go_enter Tryz.func32, Tryz.ntmps32
  go_upto_region 1 with fail
  try rw [hW0]
  clear hW0
  have p4 := BP0.out.cell 4
  have q0 := BQ0.out.cell 0
  simp at p4 q0
  go_wp2_with fail
  refine HPL.out.mono ?_
  rintro e z ⟨rfl, hb⟩
  have HB : Hid (Below w.heap.size w z) := grow_on HB0.out hb
  have BP : Hid (Blk z w.heap.size #[.int .i64 n, .slice (some ⟨gk, ok, none⟩) key.length kc, .int .i64 b, .int .i64 t, .slice none 0 0] 53) := BP0.out.grow hb
  have BQ : Hid (Blk z (w.heap.size + 1) #[.slice (some ⟨gx, ox, none⟩) x.l.length cx, .int .i64 x.s, .int .i64 x.e, .string x.n] 27) := BQ0.out.grow hb
  have BR : Hid (Blk z (w.heap.size + 1 + 1) #[.int .i64 0, .slice none 0 0, .int .i64 0, .int .i64 0, .slice none 0 0] 53) := BR0.out.grow hb
  have HL : Hid (w.heap.size + 3 ≤ z.heap.size) := by unfold Hid; have := hb.size; rw [HZ.out] at this; exact this
  clear hb BP0 BQ0 BR0 HB0 HZ HPL p4 q0
  go_upto_region 3 with fail
  have HS : Hid (∀ w', Blk w' w.heap.size #[.int .i64 n, .slice (some ⟨gk, ok, none⟩) key.length kc, .int .i64 b, .int .i64 t, .slice none 0 0] 53 → Blk w' (w.heap.size + 1) #[.slice (some ⟨gx, ox, none⟩) x.l.length cx, .int .i64 x.s, .int .i64 x.e, .string x.n] 27 → w'.cell? ⟨w.heap.size, 0, none⟩ = some (.int .i64 n) ∧ w'.cell? ⟨w.heap.size, 1, none⟩ = some (.slice (some ⟨gk, ok, none⟩) key.length kc) ∧ w'.cell? ⟨w.heap.size, 2, none⟩ = some (.int .i64 b) ∧ w'.cell? ⟨w.heap.size, 3, none⟩ = some (.int .i64 t) ∧ w'.cell? ⟨w.heap.size, 4, none⟩ = some (.slice none 0 0) ∧ w'.cell? ⟨(w.heap.size + 1), 0, none⟩ = some (.slice (some ⟨gx, ox, none⟩) x.l.length cx) ∧ w'.cell? ⟨(w.heap.size + 1), 1, none⟩ = some (.int .i64 x.s) ∧ w'.cell? ⟨(w.heap.size + 1), 2, none⟩ = some (.int .i64 x.e) ∧ w'.cell? ⟨(w.heap.size + 1), 3, none⟩ = some (.string x.n)) := fun w' h k => ⟨h.cell 0, h.cell 1, h.cell 2, h.cell 3, h.cell 4, k.cell 0, k.cell 1, k.cell 2, k.cell 3⟩
  refine wp_region_held_drew (S := fun w' => w'.cell? ⟨w.heap.size, 0, none⟩ = some (.int .i64 n) ∧ w'.cell? ⟨w.heap.size, 1, none⟩ = some (.slice (some ⟨gk, ok, none⟩) key.length kc) ∧ w'.cell? ⟨w.heap.size, 2, none⟩ = some (.int .i64 b) ∧ w'.cell? ⟨w.heap.size, 3, none⟩ = some (.int .i64 t) ∧ w'.cell? ⟨w.heap.size, 4, none⟩ = some (.slice none 0 0) ∧ w'.cell? ⟨(w.heap.size + 1), 0, none⟩ = some (.slice (some ⟨gx, ox, none⟩) x.l.length cx) ∧ w'.cell? ⟨(w.heap.size + 1), 1, none⟩ = some (.int .i64 x.s) ∧ w'.cell? ⟨(w.heap.size + 1), 2, none⟩ = some (.int .i64 x.e) ∧ w'.cell? ⟨(w.heap.size + 1), 3, none⟩ = some (.string x.n)) (by kernel_rfl) (HS.out _ (BP.out.grow (Below.refl z.heap.size z).drew) (BQ.out.grow (Below.refl z.heap.size z).drew)) (fun hHeld => ?_)
  refine tk 0 ⟨some 19, .load 53 (.tmp 2), 53, "l11_group.go:58", #[], none⟩ hHeld ?_
  try go_frame
  refine tk 1 ⟨some 20, .fieldAddr 53 (.tmp 2) 4, 0, "l11_group.go:58", #[], none⟩ hHeld ?_
  try go_frame
  refine tk 2 ⟨some 21, .load 35 (.tmp 20), 35, "l11_group.go:58", #[⟨1, .data⟩], none⟩ hHeld ?_
  try go_frame
  refine tk 3 ⟨some 22, .move (.tmp 6), 3, "l11_group.go:58", #[], none⟩ hHeld ?_
  try go_frame
  refine tk 4 ⟨some 23, .move (.tmp 6), 3, "l11_group.go:58", #[], none⟩ hHeld ?_
  try go_frame
  refine tk 5 ⟨some 24, .slice 35 (.tmp 21) none (some (.tmp 22)) (some (.tmp 23)), 35, "l11_group.go:58", #[⟨2, .data⟩, ⟨3, .data⟩, ⟨4, .data⟩], none⟩ hHeld ?_
  try go_frame
  refine tk 6 ⟨some 25, .load 27 (.tmp 3), 27, "l11_group.go:58", #[], none⟩ hHeld ?_
  try go_frame
  refine tk 8 ⟨some 27, .fieldAddr 53 (.tmp 2) 4, 0, "l11_group.go:58", #[], none⟩ hHeld ?_
  try go_frame
  refine tk 9 ⟨some 28, .load 35 (.tmp 27), 35, "l11_group.go:58", #[⟨8, .data⟩], none⟩ hHeld ?_
  try go_frame
  refine tk 10 ⟨some 29, .move (.tmp 7), 3, "l11_group.go:58", #[], none⟩ hHeld ?_
  try go_frame
  refine tk 11 ⟨some 30, .move (.tmp 5), 3, "l11_group.go:58", #[], none⟩ hHeld ?_
  try go_frame
  refine tk 12 ⟨some 31, .move (.tmp 5), 3, "l11_group.go:58", #[], none⟩ hHeld ?_
  try go_frame
  refine tk 13 ⟨some 32, .slice 35 (.tmp 28) (some (.tmp 29)) (some (.tmp 30)) (some (.tmp 31)), 35, "l11_group.go:58", #[⟨9, .data⟩, ⟨10, .data⟩, ⟨11, .data⟩, ⟨12, .data⟩], none⟩ hHeld ?_
  try go_frame
  refine rd1 7 ⟨some 26, .buildSlice 35 1 #[(0, .tmp 25)], 35, "l11_group.go:58", #[⟨6, .data⟩], none⟩ (fun K hK => ?_)
  go_simp
  clear hHeld
  refine hK.out _ _ (HS.out _ (BP.out.grow (bel_alloc (Below.refl z.heap.size z) (.cells #[.slice (some ⟨gx, ox, none⟩) x.l.length cx, .int .i64 x.s, .int .i64 x.e, .string x.n] 27)).drew) (BQ.out.grow (bel_alloc (Below.refl z.heap.size z) (.cells #[.slice (some ⟨gx, ox, none⟩) x.l.length cx, .int .i64 x.s, .int .i64 x.e, .string x.n] 27)).drew)) (fun hHeld => ?_)
  clear hK K
  try go_frame
  refine rd1 14 ⟨some 33, .buildSlice 113 3 #[(0, .tmp 24), (1, .tmp 26), (2, .tmp 32)], 113, "l11_group.go:58", #[⟨5, .data⟩, ⟨7, .data⟩, ⟨13, .data⟩], none⟩ (fun K hK => ?_)
  go_simp
  clear hHeld
  refine hK.out _ _ (HS.out _ (BP.out.grow (bel_alloc (bel_alloc (Below.refl z.heap.size z) (.cells #[.slice (some ⟨gx, ox, none⟩) x.l.length cx, .int .i64 x.s, .int .i64 x.e, .string x.n] 27)) (.cells #[.slice none 0 0, .slice (some ⟨z.heap.size, 0, none⟩) 1 1, .slice none 0 0] 35)).drew) (BQ.out.grow (bel_alloc (bel_alloc (Below.refl z.heap.size z) (.cells #[.slice (some ⟨gx, ox, none⟩) x.l.length cx, .int .i64 x.s, .int .i64 x.e, .string x.n] 27)) (.cells #[.slice none 0 0, .slice (some ⟨z.heap.size, 0, none⟩) 1 1, .slice none 0 0] 35)).drew)) (fun hHeld => ?_)
  clear hK K
  try go_frame
  generalize hW2 : ((z.alloc (.cells #[.slice (some ⟨gx, ox, none⟩) x.l.length cx, .int .i64 x.s, .int .i64 x.e, .string x.n] 27)).alloc (.cells #[.slice none 0 0, .slice (some ⟨z.heap.size, 0, none⟩) 1 1, .slice none 0 0] 35)).drew = W2 at *
  have ZW : Hid (Below z.heap.size z W2) := by rw [← hW2]; exact (bel_alloc (bel_alloc (Below.refl z.heap.size z) (.cells #[.slice (some ⟨gx, ox, none⟩) x.l.length cx, .int .i64 x.s, .int .i64 x.e, .string x.n] 27)) (.cells #[.slice none 0 0, .slice (some ⟨z.heap.size, 0, none⟩) 1 1, .slice none 0 0] 35)).drew
  have NX : Hid (Blk W2 z.heap.size #[.slice (some ⟨gx, ox, none⟩) x.l.length cx, .int .i64 x.s, .int .i64 x.e, .string x.n] 27) := by rw [← hW2]; exact ((Blk.new z _ _).alloc _).drew
  have NP : Hid (Blk W2 (z.heap.size + 1) #[.slice none 0 0, .slice (some ⟨z.heap.size, 0, none⟩) 1 1, .slice none 0 0] 35) := by rw [← hW2]; exact (Blk.new_at (by simp)).drew
  have HP : Hid (Pcs W2 (some ⟨z.heap.size + 1, 0, none⟩) (piecesN z.heap.size x)) := by
    refine ⟨.inr ⟨z.heap.size + 1, 0, rfl, NP.out.lt, fun i hi => ?_⟩, fun y hy => ?_⟩
    · have hi3 : i < 3 := hi
      match i, hi3 with
      | 0, _ => have h := NP.out.cell 0; simp at h; rw [h]; simp [piecesN, nthQ, pcV]
      | 1, _ => have h := NP.out.cell 1; simp at h; rw [h]; simp [piecesN, nthQ, pcV]
      | 2, _ => have h := NP.out.cell 2; simp at h; rw [h]; simp [piecesN, nthQ, pcV]
    · simp only [piecesN, List.mem_cons, List.not_mem_nil, or_false] at hy
      rcases hy with rfl | rfl | rfl
      · exact ⟨.inl rfl, fun i hi => by simp at hi⟩
      · exact ⟨rd_one NX.out (HX.out.1.below (grow_on HB.out ZW.out)), lenM_one HX.out.2⟩
      · exact ⟨.inl rfl, fun i hi => by simp at hi⟩
  have HC : Hid (Calls Tryz.prog 61 #[.agg #[.int .i64 n, .slice (some ⟨gk, ok, none⟩) key.length kc, .int .i64 b, .int .i64 t, .slice none 0 0], .slice (some ⟨z.heap.size + 1, 0, none⟩) 3 3] W2 fun e w' => (∃ Ke M rs, e = .returned (.agg #[.int .i64 n, .slice (some ⟨Ke, 0, none⟩) key.length key.length, .int .i64 b, .int .i64 t, .slice (some ⟨M, 0, none⟩) rs.length rs.length]) ∧ GB W2.heap.size w' Ke key M 0 rs ∧ AB W2.heap.size w' M rs.length rs ∧ pals rs = upto (piecesN z.heap.size x) 3) ∧ Below W2.heap.size W2 w') :=
    withA_any n b t gk ok kc key none 0 0 (some ⟨z.heap.size + 1, 0, none⟩) 3 (piecesN z.heap.size x) W2 (HK.out.below (grow_on HB.out ZW.out)) hkl HP.out (by show 3 ≤ 1000; omega) (by show (upto (piecesN z.heap.size x) 3).length ≤ 3000000; rw [upto_N]; simp) (fun y hy => by
      simp only [piecesN, List.mem_cons, List.not_mem_nil, or_false] at hy
      rcases hy with rfl | rfl | rfl
      · show 0 ≤ 1048576; omega
      · show 1 ≤ 1048576; omega
      · show 0 ≤ 1048576; omega)
  rw [upto_N] at HC
  clear hW2 HP NX NP
  refine rd1 15 ⟨some 34, .call { callee := .value (.func 61), args := #[.tmp 19, .tmp 33], argTypes := #[53, 113] }, 53, "l11_group.go:58", #[⟨0, .data⟩, ⟨14, .data⟩], none⟩ (fun K hK => ?_)
  go_simp
  refine (HC.out).mono ?_
  rintro r wyjm15 ⟨⟨Ke, M, rs, rfl, hG, hA, hP⟩, hb5⟩
  have Z5 : Hid (Below z.heap.size z wyjm15) := grow_on ZW.out hb5
  have HG : Hid (GA z.heap.size wyjm15 Ke key M rs ∧ pals rs = [x]) := ⟨⟨hG.key.down ZW.out.size, hA.down ZW.out.size, hG.ne⟩, hP⟩
  have BR5 : Hid (Blk wyjm15 (w.heap.size + 1 + 1) #[.int .i64 0, .slice none 0 0, .int .i64 0, .int .i64 0, .slice none 0 0] 53) := BR.out.grow Z5.out
  clear hG hA hP hb5 HC
  clear hHeld
  refine hK.out _ _ (HS.out _ (BP.out.grow Z5.out) (BQ.out.grow Z5.out)) (fun hHeld => ?_)
  clear hK K
  try go_frame
  refine rd1 16 ⟨none, .store 53 (.tmp 4) (.tmp 34), 0, "l11_group.go:58", #[⟨15, .data⟩, ⟨15, .chain⟩, ⟨0, .phase⟩, ⟨1, .phase⟩, ⟨2, .phase⟩, ⟨3, .phase⟩, ⟨4, .phase⟩, ⟨5, .phase⟩, ⟨6, .phase⟩, ⟨7, .phase⟩, ⟨8, .phase⟩, ⟨9, .phase⟩, ⟨10, .phase⟩, ⟨11, .phase⟩, ⟨12, .phase⟩, ⟨13, .phase⟩, ⟨14, .phase⟩, ⟨15, .phase⟩], none⟩ (fun K hK => ?_)
  have r0 := BR5.out.cell 0
  have fr0 := BR5.out.frozen 0
  have r1 := BR5.out.cell 1
  have fr1 := BR5.out.frozen 1
  have r2 := BR5.out.cell 2
  have fr2 := BR5.out.frozen 2
  have r3 := BR5.out.cell 3
  have fr3 := BR5.out.frozen 3
  have r4 := BR5.out.cell 4
  have fr4 := BR5.out.frozen 4
  simp at r0 r1 r2 r3 r4
  go_simp
  clear hHeld
  refine hK.out _ _ (HS.out _ ((((((BP.out.grow Z5.out).set_other (p := ⟨(w.heap.size + 1 + 1), 0, none⟩) (by show (w.heap.size + 1 + 1) ≠ w.heap.size; omega) (.int .i64 n)).set_other (p := ⟨(w.heap.size + 1 + 1), 1, none⟩) (by show (w.heap.size + 1 + 1) ≠ w.heap.size; omega) (.slice (some ⟨Ke, 0, none⟩) key.length key.length)).set_other (p := ⟨(w.heap.size + 1 + 1), 2, none⟩) (by show (w.heap.size + 1 + 1) ≠ w.heap.size; omega) (.int .i64 b)).set_other (p := ⟨(w.heap.size + 1 + 1), 3, none⟩) (by show (w.heap.size + 1 + 1) ≠ w.heap.size; omega) (.int .i64 t)).set_other (p := ⟨(w.heap.size + 1 + 1), 4, none⟩) (by show (w.heap.size + 1 + 1) ≠ w.heap.size; omega) (.slice (some ⟨M, 0, none⟩) rs.length rs.length)) ((((((BQ.out.grow Z5.out).set_other (p := ⟨(w.heap.size + 1 + 1), 0, none⟩) (by show (w.heap.size + 1 + 1) ≠ (w.heap.size + 1); omega) (.int .i64 n)).set_other (p := ⟨(w.heap.size + 1 + 1), 1, none⟩) (by show (w.heap.size + 1 + 1) ≠ (w.heap.size + 1); omega) (.slice (some ⟨Ke, 0, none⟩) key.length key.length)).set_other (p := ⟨(w.heap.size + 1 + 1), 2, none⟩) (by show (w.heap.size + 1 + 1) ≠ (w.heap.size + 1); omega) (.int .i64 b)).set_other (p := ⟨(w.heap.size + 1 + 1), 3, none⟩) (by show (w.heap.size + 1 + 1) ≠ (w.heap.size + 1); omega) (.int .i64 t)).set_other (p := ⟨(w.heap.size + 1 + 1), 4, none⟩) (by show (w.heap.size + 1 + 1) ≠ (w.heap.size + 1); omega) (.slice (some ⟨M, 0, none⟩) rs.length rs.length))) (fun hHeld => ?_)
  clear hK K
  try go_frame
  clear r0 fr0 r1 fr1 r2 fr2 r3 fr3 r4 fr4
  refine wpAnyH_done (by kernel_rfl) ?_ _
  clear hHeld
  go_wp2_with fail
  have hR : Blk _ (w.heap.size + 1 + 1) #[.int .i64 n, .slice (some ⟨Ke, 0, none⟩) key.length key.length, .int .i64 b, .int .i64 t, .slice (some ⟨M, 0, none⟩) rs.length rs.length] 53 := (((((BR5.out.set 0 (.int .i64 n)).set 1 (.slice (some ⟨Ke, 0, none⟩) key.length key.length)).set 2 (.int .i64 b)).set 3 (.int .i64 t)).set 4 (.slice (some ⟨M, 0, none⟩) rs.length rs.length))
  have s0 := hR.cell 0
  have s1 := hR.cell 1
  have s2 := hR.cell 2
  have s3 := hR.cell 3
  have s4 := hR.cell 4
  refine bodyPost_ret (v := .agg #[.int .i64 n, .slice (some ⟨Ke, 0, none⟩) key.length key.length, .int .i64 b, .int .i64 t, .slice (some ⟨M, 0, none⟩) rs.length rs.length]) (by simp [results, Tryz.results32, go_sem, s0, s1, s2, s3, s4]) rfl ?_
  exact ⟨⟨Ke, key.length, M, 0, rs.length, rs, rfl, ((((((HG.out.1.set BR5.out (by decide) (by decide) 0 (.int .i64 n)).set (BR5.out.set 0 (.int .i64 n)) (by decide) (by decide) 1 (.slice (some ⟨Ke, 0, none⟩) key.length key.length)).set ((BR5.out.set 0 (.int .i64 n)).set 1 (.slice (some ⟨Ke, 0, none⟩) key.length key.length)) (by decide) (by decide) 2 (.int .i64 b)).set (((BR5.out.set 0 (.int .i64 n)).set 1 (.slice (some ⟨Ke, 0, none⟩) key.length key.length)).set 2 (.int .i64 b)) (by decide) (by decide) 3 (.int .i64 t)).set ((((BR5.out.set 0 (.int .i64 n)).set 1 (.slice (some ⟨Ke, 0, none⟩) key.length key.length)).set 2 (.int .i64 b)).set 3 (.int .i64 t)) (by decide) (by decide) 4 (.slice (some ⟨M, 0, none⟩) rs.length rs.length)).gb).down (by have := HL.out; omega), HG.out.2⟩, (set_low (set_low (set_low (set_low (set_low (grow_on HB.out Z5.out) (M := (w.heap.size + 1 + 1)) (by omega) 0 (.int .i64 n)) (M := (w.heap.size + 1 + 1)) (by omega) 1 (.slice (some ⟨Ke, 0, none⟩) key.length key.length)) (M := (w.heap.size + 1 + 1)) (by omega) 2 (.int .i64 b)) (M := (w.heap.size + 1 + 1)) (by omega) 3 (.int .i64 t)) (M := (w.heap.size + 1 + 1)) (by omega) 4 (.slice (some ⟨M, 0, none⟩) rs.length rs.length))⟩
end Go.Proofs.YtgncimlojbnbfaaGreat.GrpIn
