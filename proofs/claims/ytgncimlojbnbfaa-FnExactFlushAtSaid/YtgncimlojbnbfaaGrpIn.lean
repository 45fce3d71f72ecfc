/-
  PROVED: impl.JoinIn of a group whose slice of alarms is none answers a group with that alarm alone, in memory of its own; nothing that was there is changed.
-/
import Derived.Test.YtgncimlojbnbfaaGrpI
namespace Go.Proofs.Ytgncimlojbnbfaa.GrpIn
open Go.RowKit
open Go.Proofs.Ytgncimlojbnbfaa.Labs Go.Proofs.Ytgncimlojbnbfaa.LabS Go.Proofs.Ytgncimlojbnbfaa.Alms Go.Proofs.Ytgncimlojbnbfaa.AlmS Go.Proofs.Ytgncimlojbnbfaa.AlmM Go.Proofs.Ytgncimlojbnbfaa.Over Go.Proofs.Ytgncimlojbnbfaa.Blk Go.Proofs.Ytgncimlojbnbfaa.App Go.Proofs.Ytgncimlojbnbfaa.Rws Go.Proofs.Ytgncimlojbnbfaa.ChnI Go.Proofs.Ytgncimlojbnbfaa.ChnC Go.Proofs.Ytgncimlojbnbfaa.ChnK Go.Proofs.Ytgncimlojbnbfaa.Grp Go.Proofs.Ytgncimlojbnbfaa.GrpO Go.Proofs.Ytgncimlojbnbfaa.GrpG Go.Proofs.Ytgncimlojbnbfaa.GrpJ Go.Proofs.Ytgncimlojbnbfaa.GrpL Go.Proofs.Ytgncimlojbnbfaa.GrpI
open Go.Proofs.Ytgncimlojbnbfaa.GrpP (placeG place_any)
set_option linter.unusedVariables false
def piecesN (N : Nat) (x : PAl) : List Pc := [(none, 0, []), (some ⟨N, 0, none⟩, 1, [x]), (none, 0, [])]
theorem upto_N (N : Nat) (x : PAl) : upto (piecesN N x) 3 = [x] := by simp [upto, piecesN]
theorem place_nil (l : List Lab) : placeG [] l = (0, 0) := by simp [placeG, GrpP.aheadA]
set_option maxRecDepth 100000 in
set_option maxHeartbeats 6400000 in
theorem implJoin_nil (n b t : Int) (gk ok kc : Nat) (key : List Lab) (gx ox cx : Nat) (x : PAl) (w : World) (hk : Reads w (some ⟨gk, ok, none⟩) key) (hkl : key.length ≤ 1048576) (hx : Reads w (some ⟨gx, ox, none⟩) x.l) (hxl : x.l.length ≤ 1048576) :
    Calls Try.prog 56 #[.agg #[.int .i64 n, .slice (some ⟨gk, ok, none⟩) key.length kc, .int .i64 b, .int .i64 t, .slice none 0 0], .agg #[.slice (some ⟨gx, ox, none⟩) x.l.length cx, .int .i64 x.s, .int .i64 x.e, .string x.n]] w fun e w' => (∃ Ke kd M o c rs, e = .returned (.agg #[.int .i64 n, .slice (some ⟨Ke, 0, none⟩) key.length kd, .int .i64 b, .int .i64 t, .slice (some ⟨M, o, none⟩) rs.length c]) ∧ GB w.heap.size w' Ke key M o rs ∧ pals rs = [x]) ∧ Below w.heap.size w w' := by
  have HK : Hid (Reads w (some ⟨gk, ok, none⟩) key) := hk
  have HX : Hid (Reads w (some ⟨gx, ox, none⟩) x.l ∧ x.l.length ≤ 1048576) := ⟨hx, hxl⟩
  clear hk hx hxl
  generalize hW0 : ((w.alloc (.cells #[.int .i64 n, .slice (some ⟨gk, ok, none⟩) key.length kc, .int .i64 b, .int .i64 t, .slice none 0 0] 67)).alloc (.cells #[.slice (some ⟨gx, ox, none⟩) x.l.length cx, .int .i64 x.s, .int .i64 x.e, .string x.n] 48)).alloc (.cells #[.int .i64 0, .slice none 0 0, .int .i64 0, .int .i64 0, .slice none 0 0] 67) = W0
  have HB0 : Hid (Below w.heap.size w W0) := by rw [← hW0]; exact Alm.below3 w _ _ _
  have BP0 : Hid (Blk W0 w.heap.size #[.int .i64 n, .slice (some ⟨gk, ok, none⟩) key.length kc, .int .i64 b, .int .i64 t, .slice none 0 0] 67) := by rw [← hW0]; exact ((Blk.new _ _ _).alloc _).alloc _
  have BQ0 : Hid (Blk W0 (w.heap.size + 1) #[.slice (some ⟨gx, ox, none⟩) x.l.length cx, .int .i64 x.s, .int .i64 x.e, .string x.n] 48) := by rw [← hW0]; exact (Blk.new_at (by simp)).alloc _
  have BR0 : Hid (Blk W0 (w.heap.size + 1 + 1) #[.int .i64 0, .slice none 0 0, .int .i64 0, .int .i64 0, .slice none 0 0] 67) := by rw [← hW0]; exact Blk.new_at (by simp)
  have HZ : Hid (W0.heap.size = w.heap.size + 3) := by show _ = _; rw [← hW0]; simp
  have HPL : Hid (Calls Try.prog 80 #[.slice none 0 0, .slice (some ⟨gx, ox, none⟩) x.l.length cx] W0 fun e w' => e = .returned (.tuple #[.int .i64 0, .int .i64 0]) ∧ Below W0.heap.size W0 w') := by
    have h := place_any none (some ⟨gx, ox, none⟩) 0 cx [] x.l W0 (.inl rfl) (HX.out.1.below HB0.out) (by have := HX.out.2; unfold maxLen; omega) (by simp) (fun i hi => by simp at hi)
    rw [place_nil] at h
    exact h
  go_enter Try.func56, Try.ntmps56
  go_upto_region 1 with fail
  try rw [hW0]
  clear hW0
  have p4 := BP0.out.cell 4
  have q0 := BQ0.out.cell 0
  simp at p4 q0
  go_wp2_with fail
  refine HPL.out.mono ?_
  rintro e z ⟨rfl, hb⟩
  have HB : Hid (Below w.heap.size w z) := grow_on HB0.out hb
  have BP : Hid (Blk z w.heap.size #[.int .i64 n, .slice (some ⟨gk, ok, none⟩) key.length kc, .int .i64 b, .int .i64 t, .slice none 0 0] 67) := BP0.out.grow hb
  have BQ : Hid (Blk z (w.heap.size + 1) #[.slice (some ⟨gx, ox, none⟩) x.l.length cx, .int .i64 x.s, .int .i64 x.e, .string x.n] 48) := BQ0.out.grow hb
  have BR : Hid (Blk z (w.heap.size + 1 + 1) #[.int .i64 0, .slice none 0 0, .int .i64 0, .int .i64 0, .slice none 0 0] 67) := BR0.out.grow hb
  have HL : Hid (w.heap.size + 3 ≤ z.heap.size) := by unfold Hid; have := hb.size; rw [HZ.out] at this; exact this
  clear hb BP0 BQ0 BR0 HB0 HZ HPL p4 q0
  go_upto_region 3 with fail
  have HS : Hid (∀ w', Blk w' w.heap.size #[.int .i64 n, .slice (some ⟨gk, ok, none⟩) key.length kc, .int .i64 b, .int .i64 t, .slice none 0 0] 67 → Blk w' (w.heap.size + 1) #[.slice (some ⟨gx, ox, none⟩) x.l.length cx, .int .i64 x.s, .int .i64 x.e, .string x.n] 48 → w'.cell? ⟨w.heap.size, 0, none⟩ = some (.int .i64 n) ∧ w'.cell? ⟨w.heap.size, 1, none⟩ = some (.slice (some ⟨gk, ok, none⟩) key.length kc) ∧ w'.cell? ⟨w.heap.size, 2, none⟩ = some (.int .i64 b) ∧ w'.cell? ⟨w.heap.size, 3, none⟩ = some (.int .i64 t) ∧ w'.cell? ⟨w.heap.size, 4, none⟩ = some (.slice none 0 0) ∧ w'.cell? ⟨(w.heap.size + 1), 0, none⟩ = some (.slice (some ⟨gx, ox, none⟩) x.l.length cx) ∧ w'.cell? ⟨(w.heap.size + 1), 1, none⟩ = some (.int .i64 x.s) ∧ w'.cell? ⟨(w.heap.size + 1), 2, none⟩ = some (.int .i64 x.e) ∧ w'.cell? ⟨(w.heap.size + 1), 3, none⟩ = some (.string x.n)) := fun w' h k => ⟨h.cell 0, h.cell 1, h.cell 2, h.cell 3, h.cell 4, k.cell 0, k.cell 1, k.cell 2, k.cell 3⟩
  refine wp_region_held_drew (S := fun w' => w'.cell? ⟨w.heap.size, 0, none⟩ = some (.int .i64 n) ∧ w'.cell? ⟨w.heap.size, 1, none⟩ = some (.slice (some ⟨gk, ok, none⟩) key.length kc) ∧ w'.cell? ⟨w.heap.size, 2, none⟩ = some (.int .i64 b) ∧ w'.cell? ⟨w.heap.size, 3, none⟩ = some (.int .i64 t) ∧ w'.cell? ⟨w.heap.size, 4, none⟩ = some (.slice none 0 0) ∧ w'.cell? ⟨(w.heap.size + 1), 0, none⟩ = some (.slice (some ⟨gx, ox, none⟩) x.l.length cx) ∧ w'.cell? ⟨(w.heap.size + 1), 1, none⟩ = some (.int .i64 x.s) ∧ w'.cell? ⟨(w.heap.size + 1), 2, none⟩ = some (.int .i64 x.e) ∧ w'.cell? ⟨(w.heap.size + 1), 3, none⟩ = some (.string x.n)) (by kernel_rfl) (HS.out _ (BP.out.grow (Below.refl z.heap.size z).drew) (BQ.out.grow (Below.refl z.heap.size z).drew)) (fun hHeld => ?_)
  refine wpAnyH_take (i := 0) (oi := { dst := some 19, op := Op.load 67 (Operand.tmp 2), type := 67, pos := "l11_group.go:58", after := #[], guard := none }) (v := ?vjm0) rfl (by kernel_rfl) (by kernel_rfl) (by kernel_rfl) (fun _ _ _ h => h) (Or.inl ⟨by rfl, ?hyjm0⟩) hHeld ?_
  case hyjm0 => (intro w hSw; (try dsimp only at hSw); go_simp <;> with_reducible rfl)
  try simp only [Act.put, List.setIfInBounds_toArray, List.set_cons_zero, List.set_cons_succ]
  refine wpAnyH_take (i := 1) (oi := { dst := some 20, op := Op.fieldAddr 67 (Operand.tmp 2) 4, type := 0, pos := "l11_group.go:58", after := #[], guard := none }) (v := ?vjm1) rfl (by kernel_rfl) (by kernel_rfl) (by kernel_rfl) (fun _ _ _ h => h) (Or.inl ⟨by rfl, ?hyjm1⟩) hHeld ?_
  case hyjm1 => (intro w hSw; (try dsimp only at hSw); go_simp <;> with_reducible rfl)
  try simp only [Act.put, List.setIfInBounds_toArray, List.set_cons_zero, List.set_cons_succ]
  refine wpAnyH_take (i := 2) (oi := { dst := some 21, op := Op.load 53 (Operand.tmp 20), type := 53, pos := "l11_group.go:58", after := #[{ on := 1, ground := Ground.data }], guard := none }) (v := ?vjm2) rfl (by kernel_rfl) (by kernel_rfl) (by kernel_rfl) (fun _ _ _ h => h) (Or.inl ⟨by rfl, ?hyjm2⟩) hHeld ?_
  case hyjm2 => (intro w hSw; (try dsimp only at hSw); go_simp <;> with_reducible rfl)
  try simp only [Act.put, List.setIfInBounds_toArray, List.set_cons_zero, List.set_cons_succ]
  refine wpAnyH_take (i := 3) (oi := { dst := some 22, op := Op.move (Operand.tmp 6), type := 3, pos := "l11_group.go:58", after := #[], guard := none }) (v := ?vjm3) rfl (by kernel_rfl) (by kernel_rfl) (by kernel_rfl) (fun _ _ _ h => h) (Or.inl ⟨by rfl, ?hyjm3⟩) hHeld ?_
  case hyjm3 => (intro w hSw; (try dsimp only at hSw); go_simp <;> with_reducible rfl)
  try simp only [Act.put, List.setIfInBounds_toArray, List.set_cons_zero, List.set_cons_succ]
  refine wpAnyH_take (i := 4) (oi := { dst := some 23, op := Op.move (Operand.tmp 6), type := 3, pos := "l11_group.go:58", after := #[], guard := none }) (v := ?vjm4) rfl (by kernel_rfl) (by kernel_rfl) (by kernel_rfl) (fun _ _ _ h => h) (Or.inl ⟨by rfl, ?hyjm4⟩) hHeld ?_
  case hyjm4 => (intro w hSw; (try dsimp only at hSw); go_simp <;> with_reducible rfl)
  try simp only [Act.put, List.setIfInBounds_toArray, List.set_cons_zero, List.set_cons_succ]
  refine wpAnyH_take (i := 5) (oi := { dst := some 24, op := Op.slice 53 (Operand.tmp 21) none (some (Operand.tmp 22)) (some (Operand.tmp 23)), type := 53, pos := "l11_group.go:58", after := #[{ on := 2, ground := Ground.data }, { on := 3, ground := Ground.data }, { on := 4, ground := Ground.data }], guard := none }) (v := ?vjm5) rfl (by kernel_rfl) (by kernel_rfl) (by kernel_rfl) (fun _ _ _ h => h) (Or.inl ⟨by rfl, ?hyjm5⟩) hHeld ?_
  case hyjm5 => (intro w hSw; (try dsimp only at hSw); go_simp <;> with_reducible rfl)
  try simp only [Act.put, List.setIfInBounds_toArray, List.set_cons_zero, List.set_cons_succ]
  refine wpAnyH_take (i := 6) (oi := { dst := some 25, op := Op.load 48 (Operand.tmp 3), type := 48, pos := "l11_group.go:58", after := #[], guard := none }) (v := ?vjm6) rfl (by kernel_rfl) (by kernel_rfl) (by kernel_rfl) (fun _ _ _ h => h) (Or.inl ⟨by rfl, ?hyjm6⟩) hHeld ?_
  case hyjm6 => (intro w hSw; (try dsimp only at hSw); go_simp <;> with_reducible rfl)
  try simp only [Act.put, List.setIfInBounds_toArray, List.set_cons_zero, List.set_cons_succ]
  refine wpAnyH_take (i := 8) (oi := { dst := some 27, op := Op.fieldAddr 67 (Operand.tmp 2) 4, type := 0, pos := "l11_group.go:58", after := #[], guard := none }) (v := ?vjm8) rfl (by kernel_rfl) (by kernel_rfl) (by kernel_rfl) (fun _ _ _ h => h) (Or.inl ⟨by rfl, ?hyjm8⟩) hHeld ?_
  case hyjm8 => (intro w hSw; (try dsimp only at hSw); go_simp <;> with_reducible rfl)
  try simp only [Act.put, List.setIfInBounds_toArray, List.set_cons_zero, List.set_cons_succ]
  refine wpAnyH_take (i := 9) (oi := { dst := some 28, op := Op.load 53 (Operand.tmp 27), type := 53, pos := "l11_group.go:58", after := #[{ on := 8, ground := Ground.data }], guard := none }) (v := ?vjm9) rfl (by kernel_rfl) (by kernel_rfl) (by kernel_rfl) (fun _ _ _ h => h) (Or.inl ⟨by rfl, ?hyjm9⟩) hHeld ?_
  case hyjm9 => (intro w hSw; (try dsimp only at hSw); go_simp <;> with_reducible rfl)
  try simp only [Act.put, List.setIfInBounds_toArray, List.set_cons_zero, List.set_cons_succ]
  refine wpAnyH_take (i := 10) (oi := { dst := some 29, op := Op.move (Operand.tmp 7), type := 3, pos := "l11_group.go:58", after := #[], guard := none }) (v := ?vjm10) rfl (by kernel_rfl) (by kernel_rfl) (by kernel_rfl) (fun _ _ _ h => h) (Or.inl ⟨by rfl, ?hyjm10⟩) hHeld ?_
  case hyjm10 => (intro w hSw; (try dsimp only at hSw); go_simp <;> with_reducible rfl)
  try simp only [Act.put, List.setIfInBounds_toArray, List.set_cons_zero, List.set_cons_succ]
  refine wpAnyH_take (i := 11) (oi := { dst := some 30, op := Op.move (Operand.tmp 5), type := 3, pos := "l11_group.go:58", after := #[], guard := none }) (v := ?vjm11) rfl (by kernel_rfl) (by kernel_rfl) (by kernel_rfl) (fun _ _ _ h => h) (Or.inl ⟨by rfl, ?hyjm11⟩) hHeld ?_
  case hyjm11 => (intro w hSw; (try dsimp only at hSw); go_simp <;> with_reducible rfl)
  try simp only [Act.put, List.setIfInBounds_toArray, List.set_cons_zero, List.set_cons_succ]
  refine wpAnyH_take (i := 12) (oi := { dst := some 31, op := Op.move (Operand.tmp 5), type := 3, pos := "l11_group.go:58", after := #[], guard := none }) (v := ?vjm12) rfl (by kernel_rfl) (by kernel_rfl) (by kernel_rfl) (fun _ _ _ h => h) (Or.inl ⟨by rfl, ?hyjm12⟩) hHeld ?_
  case hyjm12 => (intro w hSw; (try dsimp only at hSw); go_simp <;> with_reducible rfl)
  try simp only [Act.put, List.setIfInBounds_toArray, List.set_cons_zero, List.set_cons_succ]
  refine wpAnyH_take (i := 13) (oi := { dst := some 32, op := Op.slice 53 (Operand.tmp 28) (some (Operand.tmp 29)) (some (Operand.tmp 30)) (some (Operand.tmp 31)), type := 53, pos := "l11_group.go:58", after := #[{ on := 9, ground := Ground.data }, { on := 10, ground := Ground.data }, { on := 11, ground := Ground.data }, { on := 12, ground := Ground.data }], guard := none }) (v := ?vjm13) rfl (by kernel_rfl) (by kernel_rfl) (by kernel_rfl) (fun _ _ _ h => h) (Or.inl ⟨by rfl, ?hyjm13⟩) hHeld ?_
  case hyjm13 => (intro w hSw; (try dsimp only at hSw); go_simp <;> with_reducible rfl)
  try simp only [Act.put, List.setIfInBounds_toArray, List.set_cons_zero, List.set_cons_succ]
  refine wpAnyH_ready (rs := [7]) (by kernel_rfl) (by simp) ?_
  refine AllReadyH.cons (o := { dst := some 26, op := Op.buildSlice 53 1 #[(0, Operand.tmp 25)], type := 53, pos := "l11_group.go:58", after := #[{ on := 6, ground := Ground.data }], guard := none }) rfl (fun K hK => ?_) AllReadyH.nil
  go_simp
  clear hHeld
  refine hK.out _ _ (HS.out _ (BP.out.grow (bel_alloc (Below.refl z.heap.size z) (.cells #[.slice (some ⟨gx, ox, none⟩) x.l.length cx, .int .i64 x.s, .int .i64 x.e, .string x.n] 48)).drew) (BQ.out.grow (bel_alloc (Below.refl z.heap.size z) (.cells #[.slice (some ⟨gx, ox, none⟩) x.l.length cx, .int .i64 x.s, .int .i64 x.e, .string x.n] 48)).drew)) (fun hHeld => ?_)
  clear hK K
  try simp only [Act.put, List.setIfInBounds_toArray, List.set_cons_zero, List.set_cons_succ]
  refine wpAnyH_ready (rs := [14]) (by kernel_rfl) (by simp) ?_
  refine AllReadyH.cons (o := { dst := some 33, op := Op.buildSlice 116 3 #[(0, Operand.tmp 24), (1, Operand.tmp 26), (2, Operand.tmp 32)], type := 116, pos := "l11_group.go:58", after := #[{ on := 5, ground := Ground.data }, { on := 7, ground := Ground.data }, { on := 13, ground := Ground.data }], guard := none }) rfl (fun K hK => ?_) AllReadyH.nil
  go_simp
  clear hHeld
  refine hK.out _ _ (HS.out _ (BP.out.grow (bel_alloc (bel_alloc (Below.refl z.heap.size z) (.cells #[.slice (some ⟨gx, ox, none⟩) x.l.length cx, .int .i64 x.s, .int .i64 x.e, .string x.n] 48)) (.cells #[.slice none 0 0, .slice (some ⟨z.heap.size, 0, none⟩) 1 1, .slice none 0 0] 53)).drew) (BQ.out.grow (bel_alloc (bel_alloc (Below.refl z.heap.size z) (.cells #[.slice (some ⟨gx, ox, none⟩) x.l.length cx, .int .i64 x.s, .int .i64 x.e, .string x.n] 48)) (.cells #[.slice none 0 0, .slice (some ⟨z.heap.size, 0, none⟩) 1 1, .slice none 0 0] 53)).drew)) (fun hHeld => ?_)
  clear hK K
  try simp only [Act.put, List.setIfInBounds_toArray, List.set_cons_zero, List.set_cons_succ]
  generalize hW2 : ((z.alloc (.cells #[.slice (some ⟨gx, ox, none⟩) x.l.length cx, .int .i64 x.s, .int .i64 x.e, .string x.n] 48)).alloc (.cells #[.slice none 0 0, .slice (some ⟨z.heap.size, 0, none⟩) 1 1, .slice none 0 0] 53)).drew = W2 at *
  have ZW : Hid (Below z.heap.size z W2) := by rw [← hW2]; exact (bel_alloc (bel_alloc (Below.refl z.heap.size z) (.cells #[.slice (some ⟨gx, ox, none⟩) x.l.length cx, .int .i64 x.s, .int .i64 x.e, .string x.n] 48)) (.cells #[.slice none 0 0, .slice (some ⟨z.heap.size, 0, none⟩) 1 1, .slice none 0 0] 53)).drew
  have NX : Hid (Blk W2 z.heap.size #[.slice (some ⟨gx, ox, none⟩) x.l.length cx, .int .i64 x.s, .int .i64 x.e, .string x.n] 48) := by rw [← hW2]; exact ((Blk.new z _ _).alloc _).drew
  have NP : Hid (Blk W2 (z.heap.size + 1) #[.slice none 0 0, .slice (some ⟨z.heap.size, 0, none⟩) 1 1, .slice none 0 0] 53) := by rw [← hW2]; exact (Blk.new_at (by simp)).drew
  have HP : Hid (Pcs W2 (some ⟨z.heap.size + 1, 0, none⟩) (piecesN z.heap.size x)) := by
    refine ⟨.inr ⟨z.heap.size + 1, 0, rfl, NP.out.lt, fun i hi => ?_⟩, fun y hy => ?_⟩
    · have hi3 : i < 3 := hi
      match i, hi3 with
      | 0, _ => have h := NP.out.cell 0; simp at h; rw [h]; simp [piecesN, nthQ, pcV]
      | 1, _ => have h := NP.out.cell 1; simp at h; rw [h]; simp [piecesN, nthQ, pcV]
      | 2, _ => have h := NP.out.cell 2; simp at h; rw [h]; simp [piecesN, nthQ, pcV]
    · simp only [piecesN, List.mem_cons, List.not_mem_nil, or_false] at hy
      rcases hy with rfl | rfl | rfl
      · exact ⟨.inl rfl, fun i hi => by simp at hi⟩
      · exact ⟨rd_one NX.out (HX.out.1.below (grow_on HB.out ZW.out)), lenM_one HX.out.2⟩
      · exact ⟨.inl rfl, fun i hi => by simp at hi⟩
  have HC : Hid (Calls Try.prog 81 #[.agg #[.int .i64 n, .slice (some ⟨gk, ok, none⟩) key.length kc, .int .i64 b, .int .i64 t, .slice none 0 0], .slice (some ⟨z.heap.size + 1, 0, none⟩) 3 3] W2 fun e w' => (∃ Ke M rs, e = .returned (.agg #[.int .i64 n, .slice (some ⟨Ke, 0, none⟩) key.length key.length, .int .i64 b, .int .i64 t, .slice (some ⟨M, 0, none⟩) rs.length rs.length]) ∧ GB W2.heap.size w' Ke key M 0 rs ∧ AB W2.heap.size w' M rs.length rs ∧ pals rs = upto (piecesN z.heap.size x) 3) ∧ Below W2.heap.size W2 w') :=
    withA_any n b t gk ok kc key none 0 0 (some ⟨z.heap.size + 1, 0, none⟩) 3 (piecesN z.heap.size x) W2 (HK.out.below (grow_on HB.out ZW.out)) hkl HP.out (by show 3 ≤ 1000; omega) (by show (upto (piecesN z.heap.size x) 3).length ≤ 3000000; rw [upto_N]; simp) (fun y hy => by
      simp only [piecesN, List.mem_cons, List.not_mem_nil, or_false] at hy
      rcases hy with rfl | rfl | rfl
      · show 0 ≤ 1048576; omega
      · show 1 ≤ 1048576; omega
      · show 0 ≤ 1048576; omega)
  rw [upto_N] at HC
  clear hW2 HP NX NP
  refine wpAnyH_ready (rs := [15]) (by kernel_rfl) (by simp) ?_
  refine AllReadyH.cons (o := { dst := some 34, op := Op.call { callee := Callee.value (Operand.func 81), args := #[Operand.tmp 19, Operand.tmp 33], argTypes := #[67, 116] }, type := 67, pos := "l11_group.go:58", after := #[{ on := 0, ground := Ground.data }, { on := 14, ground := Ground.data }], guard := none }) rfl (fun K hK => ?_) AllReadyH.nil
  go_simp
  refine (HC.out).mono ?_
  rintro r wyjm15 ⟨⟨Ke, M, rs, rfl, hG, hA, hP⟩, hb5⟩
  have Z5 : Hid (Below z.heap.size z wyjm15) := grow_on ZW.out hb5
  have HG : Hid (GA z.heap.size wyjm15 Ke key M rs ∧ pals rs = [x]) := ⟨⟨hG.key.down ZW.out.size, hA.down ZW.out.size, hG.ne⟩, hP⟩
  have BR5 : Hid (Blk wyjm15 (w.heap.size + 1 + 1) #[.int .i64 0, .slice none 0 0, .int .i64 0, .int .i64 0, .slice none 0 0] 67) := BR.out.grow Z5.out
  clear hG hA hP hb5 HC
  clear hHeld
  refine hK.out _ _ (HS.out _ (BP.out.grow Z5.out) (BQ.out.grow Z5.out)) (fun hHeld => ?_)
  clear hK K
  try simp only [Act.put, List.setIfInBounds_toArray, List.set_cons_zero, List.set_cons_succ]
  refine wpAnyH_ready (rs := [16]) (by kernel_rfl) (by simp) ?_
  refine AllReadyH.cons (o := { dst := none, op := Op.store 67 (Operand.tmp 4) (Operand.tmp 34), type := 0, pos := "l11_group.go:58", after := #[{ on := 15, ground := Ground.data }, { on := 15, ground := Ground.chain }, { on := 0, ground := Ground.phase }, { on := 1, ground := Ground.phase }, { on := 2, ground := Ground.phase }, { on := 3, ground := Ground.phase }, { on := 4, ground := Ground.phase }, { on := 5, ground := Ground.phase }, { on := 6, ground := Ground.phase }, { on := 7, ground := Ground.phase }, { on := 8, ground := Ground.phase }, { on := 9, ground := Ground.phase }, { on := 10, ground := Ground.phase }, { on := 11, ground := Ground.phase }, { on := 12, ground := Ground.phase }, { on := 13, ground := Ground.phase }, { on := 14, ground := Ground.phase }, { on := 15, ground := Ground.phase }], guard := none }) rfl (fun K hK => ?_) AllReadyH.nil
  have r0 := BR5.out.cell 0
  have fr0 := BR5.out.frozen 0
  have r1 := BR5.out.cell 1
  have fr1 := BR5.out.frozen 1
  have r2 := BR5.out.cell 2
  have fr2 := BR5.out.frozen 2
  have r3 := BR5.out.cell 3
  have fr3 := BR5.out.frozen 3
  have r4 := BR5.out.cell 4
  have fr4 := BR5.out.frozen 4
  simp at r0 r1 r2 r3 r4
  go_simp
  clear hHeld
  refine hK.out _ _ (HS.out _ ((((((BP.out.grow Z5.out).set_other (p := ⟨(w.heap.size + 1 + 1), 0, none⟩) (by show (w.heap.size + 1 + 1) ≠ w.heap.size; omega) (.int .i64 n)).set_other (p := ⟨(w.heap.size + 1 + 1), 1, none⟩) (by show (w.heap.size + 1 + 1) ≠ w.heap.size; omega) (.slice (some ⟨Ke, 0, none⟩) key.length key.length)).set_other (p := ⟨(w.heap.size + 1 + 1), 2, none⟩) (by show (w.heap.size + 1 + 1) ≠ w.heap.size; omega) (.int .i64 b)).set_other (p := ⟨(w.heap.size + 1 + 1), 3, none⟩) (by show (w.heap.size + 1 + 1) ≠ w.heap.size; omega) (.int .i64 t)).set_other (p := ⟨(w.heap.size + 1 + 1), 4, none⟩) (by show (w.heap.size + 1 + 1) ≠ w.heap.size; omega) (.slice (some ⟨M, 0, none⟩) rs.length rs.length)) ((((((BQ.out.grow Z5.out).set_other (p := ⟨(w.heap.size + 1 + 1), 0, none⟩) (by show (w.heap.size + 1 + 1) ≠ (w.heap.size + 1); omega) (.int .i64 n)).set_other (p := ⟨(w.heap.size + 1 + 1), 1, none⟩) (by show (w.heap.size + 1 + 1) ≠ (w.heap.size + 1); omega) (.slice (some ⟨Ke, 0, none⟩) key.length key.length)).set_other (p := ⟨(w.heap.size + 1 + 1), 2, none⟩) (by show (w.heap.size + 1 + 1) ≠ (w.heap.size + 1); omega) (.int .i64 b)).set_other (p := ⟨(w.heap.size + 1 + 1), 3, none⟩) (by show (w.heap.size + 1 + 1) ≠ (w.heap.size + 1); omega) (.int .i64 t)).set_other (p := ⟨(w.heap.size + 1 + 1), 4, none⟩) (by show (w.heap.size + 1 + 1) ≠ (w.heap.size + 1); omega) (.slice (some ⟨M, 0, none⟩) rs.length rs.length))) (fun hHeld => ?_)
  clear hK K
  try simp only [Act.put, List.setIfInBounds_toArray, List.set_cons_zero, List.set_cons_succ]
  clear r0 fr0 r1 fr1 r2 fr2 r3 fr3 r4 fr4
  refine wpAnyH_done (by kernel_rfl) ?_ _
  clear hHeld
  go_wp2_with fail
  have hR : Blk _ (w.heap.size + 1 + 1) #[.int .i64 n, .slice (some ⟨Ke, 0, none⟩) key.length key.length, .int .i64 b, .int .i64 t, .slice (some ⟨M, 0, none⟩) rs.length rs.length] 67 := (((((BR5.out.set 0 (.int .i64 n)).set 1 (.slice (some ⟨Ke, 0, none⟩) key.length key.length)).set 2 (.int .i64 b)).set 3 (.int .i64 t)).set 4 (.slice (some ⟨M, 0, none⟩) rs.length rs.length))
  have s0 := hR.cell 0
  have s1 := hR.cell 1
  have s2 := hR.cell 2
  have s3 := hR.cell 3
  have s4 := hR.cell 4
  refine bodyPost_ret (v := .agg #[.int .i64 n, .slice (some ⟨Ke, 0, none⟩) key.length key.length, .int .i64 b, .int .i64 t, .slice (some ⟨M, 0, none⟩) rs.length rs.length]) (by simp [results, Try.results56, go_sem, s0, s1, s2, s3, s4]) rfl ?_
  exact ⟨⟨Ke, key.length, M, 0, rs.length, rs, rfl, ((((((HG.out.1.set BR5.out (by decide) (by decide) 0 (.int .i64 n)).set (BR5.out.set 0 (.int .i64 n)) (by decide) (by decide) 1 (.slice (some ⟨Ke, 0, none⟩) key.length key.length)).set ((BR5.out.set 0 (.int .i64 n)).set 1 (.slice (some ⟨Ke, 0, none⟩) key.length key.length)) (by decide) (by decide) 2 (.int .i64 b)).set (((BR5.out.set 0 (.int .i64 n)).set 1 (.slice (some ⟨Ke, 0, none⟩) key.length key.length)).set 2 (.int .i64 b)) (by decide) (by decide) 3 (.int .i64 t)).set ((((BR5.out.set 0 (.int .i64 n)).set 1 (.slice (some ⟨Ke, 0, none⟩) key.length key.length)).set 2 (.int .i64 b)).set 3 (.int .i64 t)) (by decide) (by decide) 4 (.slice (some ⟨M, 0, none⟩) rs.length rs.length)).gb).down (by have := HL.out; omega), HG.out.2⟩, (set_low (set_low (set_low (set_low (set_low (grow_on HB.out Z5.out) (M := (w.heap.size + 1 + 1)) (by omega) 0 (.int .i64 n)) (M := (w.heap.size + 1 + 1)) (by omega) 1 (.slice (some ⟨Ke, 0, none⟩) key.length key.length)) (M := (w.heap.size + 1 + 1)) (by omega) 2 (.int .i64 b)) (M := (w.heap.size + 1 + 1)) (by omega) 3 (.int .i64 t)) (M := (w.heap.size + 1 + 1)) (by omega) 4 (.slice (some ⟨M, 0, none⟩) rs.length rs.length))⟩
end Go.Proofs.Ytgncimlojbnbfaa.GrpIn
