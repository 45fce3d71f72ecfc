/-
  PROVED: impl.copiedChain gives a chain of the same alarms in memory of its own, each alarm's labels in a block of their own; nothing that was there is changed.
-/
import Derived.Test.YtooninmicfcfoaaGreatQChnI
import Derived.Deep.DeepCutAuto
import Derived.Deep.RegionHeld3
set_option linter.unusedVariables false
namespace Go.Proofs.YtooninmicfcfoaaGreat.ChnC
open Go.RowKit
open Labs LabS Alms AlmM Over Blk Rnd Plc Lop App Rws ChnI
attribute [local go_sem] Oper.semAt_some

theorem blkC_ne {w : World} {a : Nat} {cs ds : Array Value} (h : Blk w a cs 96) (k : Blk w a ds 127) : False := by
  unfold Blk at h k
  rw [h] at k
  injection k with k
  injection k with _ k
  exact absurd k (by decide)
theorem blkC_al {w : World} {a : Nat} {cs ds : Array Value} (h : Blk w a cs 96) (k : Blk w a ds 29) : False := by
  unfold Blk at h k
  rw [h] at k
  injection k with k
  injection k with _ k
  exact absurd k (by decide)
set_option maxRecDepth 100000 in
set_option maxHeartbeats 2000000 in
theorem implCopy_any (f : Int) (a : Option Addr) (cap : Nat) (P : List PAl) (w : World) (hr : RdA w a P) (hl : P.length ≤ 1048576) (hs : LenM P) :
    Calls Tryz.prog 94 #[.agg #[.int .i64 f, .slice a P.length cap]] w fun e w' => (∃ M rs, e = .returned (.agg #[.int .i64 f, .slice (some ⟨M, 0, none⟩) P.length P.length]) ∧ AB w.heap.size w' M P.length rs ∧ pals rs = P) ∧ Below w.heap.size w w' := by
  have HR : Hid (RdA w a P) := hr
  have HS : Hid (LenM P) := hs
  clear hr hs
  go_enter Tryz.func94, Tryz.ntmps94
  go_upto_region 1 with fail
  generalize hz : (w.alloc (.cells #[.int .i64 f, .slice a P.length cap] 96)).alloc (.cells #[.int .i64 0, .slice none 0 0] 96) = W
  have HX : Hid (Blk W w.heap.size #[.int .i64 f, .slice a P.length cap] 96) := by rw [← hz]; exact (Blk.new _ _ _).alloc _
  have HY : Hid (Blk W (w.heap.size + 1) #[.int .i64 0, .slice none 0 0] 96) := by rw [← hz]; exact Blk.new_at (by simp)
  have HB : Hid (Below w.heap.size w W) := by rw [← hz]; exact Go.Joins.below_alloc2 w _ _
  have HZ : Hid (w.heap.size + 2 = W.heap.size) := by unfold Hid; rw [← hz]; simp
  clear hz
  have HC : Hid (∀ y, Below W.heap.size W y → Calls Tryz.prog 138 #[.slice a P.length cap] y fun e w' => (∃ M rs, e = .returned (.slice (some ⟨M, 0, none⟩) P.length P.length) ∧ AB y.heap.size w' M P.length rs ∧ pals rs = P) ∧ Below y.heap.size y w') := fun y hy => implCopies_any a cap P y (HR.out.below (grow_on HB.out hy)) hl HS.out
  have HK : Hid (∀ w', Blk w' w.heap.size #[.int .i64 f, .slice a P.length cap] 96 → w'.cell? ⟨w.heap.size, 0, none⟩ = some (.int .i64 f) ∧ w'.cell? ⟨w.heap.size, 1, none⟩ = some (.slice a P.length cap)) := fun w' h => ⟨h.cell 0, h.cell 1⟩
  refine wp_region_held_drew (S := fun w' => w'.cell? ⟨w.heap.size, 0, none⟩ = some (.int .i64 f) ∧ w'.cell? ⟨w.heap.size, 1, none⟩ = some (.slice a P.length cap)) (by kernel_rfl) (HK.out _ HX.out.drew) (fun hHeld => ?_)
  refine wpAnyH_take (i := 0) (oi := { dst := some 3, op := Op.fieldAddr 96 (Operand.tmp 1) 0, type := 0, pos := "l06_chain.go:59", after := #[], guard := none }) (v := ?vq0) rfl (by kernel_rfl) (by kernel_rfl) (by kernel_rfl) (fun _ _ _ h => h) (Or.inl ⟨by rfl, ?hyq0⟩) hHeld ?_
  case hyq0 => (intro w hSw; (try dsimp only at hSw); go_simp <;> with_reducible rfl)
  try simp only [Act.put, List.setIfInBounds_toArray, List.set_cons_zero, List.set_cons_succ]
  refine wpAnyH_take (i := 1) (oi := { dst := some 4, op := Op.load 3 (Operand.tmp 3), type := 3, pos := "l06_chain.go:59", after := #[{ on := 0, ground := Ground.data }], guard := none }) (v := ?vq1) rfl (by kernel_rfl) (by kernel_rfl) (by kernel_rfl) (fun _ _ _ h => h) (Or.inl ⟨by rfl, ?hyq1⟩) hHeld ?_
  case hyq1 => (intro w hSw; (try dsimp only at hSw); go_simp <;> with_reducible rfl)
  try simp only [Act.put, List.setIfInBounds_toArray, List.set_cons_zero, List.set_cons_succ]
  refine wpAnyH_take (i := 2) (oi := { dst := some 5, op := Op.fieldAddr 96 (Operand.tmp 1) 1, type := 0, pos := "l06_chain.go:59", after := #[], guard := none }) (v := ?vq2) rfl (by kernel_rfl) (by kernel_rfl) (by kernel_rfl) (fun _ _ _ h => h) (Or.inl ⟨by rfl, ?hyq2⟩) hHeld ?_
  case hyq2 => (intro w hSw; (try dsimp only at hSw); go_simp <;> with_reducible rfl)
  try simp only [Act.put, List.setIfInBounds_toArray, List.set_cons_zero, List.set_cons_succ]
  refine wpAnyH_take (i := 3) (oi := { dst := some 6, op := Op.load 40 (Operand.tmp 5), type := 40, pos := "l06_chain.go:59", after := #[{ on := 2, ground := Ground.data }], guard := none }) (v := ?vq3) rfl (by kernel_rfl) (by kernel_rfl) (by kernel_rfl) (fun _ _ _ h => h) (Or.inl ⟨by rfl, ?hyq3⟩) hHeld ?_
  case hyq3 => (intro w hSw; (try dsimp only at hSw); go_simp <;> with_reducible rfl)
  try simp only [Act.put, List.setIfInBounds_toArray, List.set_cons_zero, List.set_cons_succ]
  refine wpAnyH_ready (rs := [4]) (by kernel_rfl) (by simp) ?_
  refine AllReadyH.cons (o := { dst := some 7, op := Op.call { callee := Callee.value (Operand.func 138), args := #[Operand.tmp 6], argTypes := #[40] }, type := 40, pos := "l06_chain.go:59", after := #[{ on := 3, ground := Ground.data }], guard := none }) rfl (fun K hK => ?_) AllReadyH.nil
  go_simp
  refine (HC.out _ (Below.refl _ _).drew).mono ?_
  rintro r wyq4 ⟨⟨M, rs, rfl, hab, hp⟩, hy⟩
  have HZ2 : Hid (Below W.heap.size W wyq4) := grow_on (Below.refl _ _).drew hy
  have HAB : Hid (AB w.heap.size wyq4 M P.length rs ∧ pals rs = P) := ⟨hab.down (by have := HZ.out; show w.heap.size ≤ W.drew.heap.size; simp; omega), hp⟩
  have hY := HY.out.grow HZ2.out
  have p0 : wyq4.cell? ⟨(w.heap.size + 1), 0, none⟩ = some (.int .i64 0) := hY.cell 0
  have p1 : wyq4.cell? ⟨(w.heap.size + 1), 1, none⟩ = some (.slice none 0 0) := hY.cell 1
  have f0 := hY.frozen 0
  have f1 := hY.frozen 1
  have HY4 : Hid (Blk wyq4 (w.heap.size + 1) #[.int .i64 0, .slice none 0 0] 96) := hY
  clear hab hp hy hY
  clear hHeld
  refine hK.out _ _ (HK.out _ (HX.out.grow HZ2.out)) (fun hHeld => ?_)
  clear hK K
  try simp only [Act.put, List.setIfInBounds_toArray, List.set_cons_zero, List.set_cons_succ]
  refine wpAnyH_take (i := 5) (oi := { dst := some 8, op := Op.build 96 #[(0, Operand.tmp 4), (1, Operand.tmp 7)], type := 96, pos := "l06_chain.go:59", after := #[{ on := 1, ground := Ground.data }, { on := 4, ground := Ground.data }], guard := none }) (v := ?vq5) rfl (by kernel_rfl) (by kernel_rfl) (by kernel_rfl) (fun _ _ _ h => h) (Or.inl ⟨by rfl, ?hyq5⟩) hHeld ?_
  case hyq5 => (intro w hSw; (try dsimp only at hSw); go_simp <;> with_reducible rfl)
  try simp only [Act.put, List.setIfInBounds_toArray, List.set_cons_zero, List.set_cons_succ]
  refine wpAnyH_ready (rs := [6]) (by kernel_rfl) (by simp) ?_
  refine AllReadyH.cons (o := { dst := none, op := Op.store 96 (Operand.tmp 2) (Operand.tmp 8), type := 0, pos := "l06_chain.go:59", after := #[{ on := 5, ground := Ground.data }, { on := 4, ground := Ground.chain }, { on := 0, ground := Ground.phase }, { on := 1, ground := Ground.phase }, { on := 2, ground := Ground.phase }, { on := 3, ground := Ground.phase }, { on := 4, ground := Ground.phase }, { on := 5, ground := Ground.phase }], guard := none }) rfl (fun K hK => ?_) AllReadyH.nil
  go_simp
  clear hHeld
  refine hK.out _ _ (HK.out ((wyq4.setCell ⟨(w.heap.size + 1), 0, none⟩ (.int .i64 f)).setCell ⟨(w.heap.size + 1), 1, none⟩ (.slice (some ⟨M, 0, none⟩) P.length P.length)) (((HX.out.grow HZ2.out).set_other (show (w.heap.size + 1) ≠ w.heap.size by omega) _).set_other (show (w.heap.size + 1) ≠ w.heap.size by omega) _)) (fun hHeld => ?_)
  clear hK K
  try simp only [Act.put, List.setIfInBounds_toArray, List.set_cons_zero, List.set_cons_succ]
  refine wpAnyH_done (by kernel_rfl) ?_ _
  have hs : Blk ((wyq4.setCell ⟨(w.heap.size + 1), 0, none⟩ (.int .i64 f)).setCell ⟨(w.heap.size + 1), 1, none⟩ (.slice (some ⟨M, 0, none⟩) P.length P.length)) (w.heap.size + 1) #[.int .i64 f, .slice (some ⟨M, 0, none⟩) P.length P.length] 96 := (HY4.out.set 0 _).set 1 _
  have s0 := hs.cell 0
  have s1 := hs.cell 1
  go_wp2_with fail
  refine bodyPost_ret (v := .agg #[.int .i64 f, .slice (some ⟨M, 0, none⟩) P.length P.length]) (by simp [results, Tryz.results94, go_sem, s0, s1]) rfl ?_
  refine ⟨⟨M, rs, rfl, Go.Proofs.YtooninmicfcfoaaGreat.ChnP.ab_moved HAB.out.1 (fun {cs} k1 => ?_) (fun {k} {cs} k1 => ?_), HAB.out.2⟩, Go.Proofs.YtooninmicfcfoaaGreat.ChnP.set2 (grow_on HB.out HZ2.out) (by omega) _ _⟩
  · have hne : (w.heap.size + 1) ≠ M := fun e => by subst e; exact blkC_al HY4.out k1
    exact (k1.set_other hne _).set_other hne _
  · have hne : (w.heap.size + 1) ≠ k := fun e => by subst e; exact blkC_ne HY4.out k1
    exact (k1.set_other hne _).set_other hne _
end Go.Proofs.YtooninmicfcfoaaGreat.ChnC
