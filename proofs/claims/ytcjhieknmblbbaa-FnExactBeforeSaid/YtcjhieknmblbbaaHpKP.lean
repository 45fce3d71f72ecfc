/-
  PROVED: the heap's method Push: the row of the call's own, one longer.
-/
import Derived.Test.YtcjhieknmblbbaaHpJ
import Derived.Test.YtcjhieknmblbbaaHld
import Derived.Handy
namespace Go.Proofs.Ytcjhieknmblbbaa.HpKP
open Go.RowKit
open Go.Proofs.Ytcjhieknmblbbaa.Hp Go.Proofs.Ytcjhieknmblbbaa.Tms Go.Proofs.Ytcjhieknmblbbaa.TmO Go.Proofs.Ytcjhieknmblbbaa.TmR Go.Proofs.Ytcjhieknmblbbaa.HpS Go.Proofs.Ytcjhieknmblbbaa.HpA Go.Proofs.Ytcjhieknmblbbaa.HpJ Go.Proofs.Ytcjhieknmblbbaa.Over Go.Proofs.Ytcjhieknmblbbaa.Blk Go.Proofs.Ytcjhieknmblbbaa.App
open Go.Proofs.Ytcjhieknmblbbaa.Mark (Apart)
set_option linter.unusedVariables false
attribute [local go_sem] Oper.semAt_some
set_option maxHeartbeats 800000 in
theorem pushM_any (B M c : Nat) (l : List Tm) (t : Tm) (w : World) (h : Hq B w M c l) (hl : l.length ≤ 20000000) :
    Calls Try.prog 75 #[.pointer (some ⟨B, 0, none⟩), .iface 26 (.agg #[.int .i64 t.1, .int .i64 t.2])] w fun e w' => e = .returned (.tuple #[]) ∧ ∃ M' c', Hq B w' M' c' (l ++ [t]) ∧ Step B w M w' M' := by
  have H0 : Hid (Hq B w M c l) := h
  have hBl := h.var.lt
  have hMl := h.row.lt
  obtain ⟨i0, hi, hz0, hz1, hz2⟩ := infoH
  have HI : Hid (Try.prog.info? 26 = some i0 ∧ i0.zero = some (.agg #[.int .i64 0, .int .i64 0]) ∧ i0.size = 2 ∧ i0.bytes = 16) := ⟨hi, hz0, hz1, hz2⟩
  have HN : Hid (B ≠ M ∧ M < w.heap.size ∧ B < w.heap.size) := ⟨h.ne, hMl, hBl⟩
  clear h hi hz0 hz1 hz2 hMl
  have hta := fun xT => assert_tm (.agg #[.int .i64 t.1, .int .i64 t.2]) xT w
  go_enter Try.func75, Try.ntmps75
  go_upto_region 2 with fail
  generalize hW : w.alloc (.cells #[.int .i64 t.1, .int .i64 t.2] 26) = W
  have HX : Hid (Blk W w.heap.size #[.int .i64 t.1, .int .i64 t.2] 26) := by rw [← hW]; exact Blk.new _ _ _
  have HB : Hid (Below w.heap.size w W) := by rw [← hW]; exact Go.Joins.below_alloc1 w _
  have HQ : Hid (Hq B W M c l) := H0.out.grow HB.out
  have HZ : Hid (W.heap.size = w.heap.size + 1) := by unfold Hid; rw [← hW]; simp
  clear hW H0 hta
  have HS : Hid (∀ w', Blk w' B #[.slice (some ⟨M, 0, none⟩) l.length c] 55 → Blk w' w.heap.size #[.int .i64 t.1, .int .i64 t.2] 26 → w'.cell? ⟨B, 0, none⟩ = some (.slice (some ⟨M, 0, none⟩) l.length c) ∧ w'.cell? ⟨w.heap.size, 0, none⟩ = some (.int .i64 t.1) ∧ w'.cell? ⟨w.heap.size, 1, none⟩ = some (.int .i64 t.2)) := fun w' h k => ⟨h.cell 0, k.cell 0, k.cell 1⟩
  refine Hld.wp_region_LH (z := 8) (S := fun w' => w'.cell? ⟨B, 0, none⟩ = some (.slice (some ⟨M, 0, none⟩) l.length c) ∧ w'.cell? ⟨w.heap.size, 0, none⟩ = some (.int .i64 t.1) ∧ w'.cell? ⟨w.heap.size, 1, none⟩ = some (.int .i64 t.2)) (by kernel_rfl) (HS.out _ HQ.out.var.drew HX.out.drew) (fun hHeld => ?_)
  refine Hld.anyL_take (i := 0) (oi := { dst := some 12, op := Op.move (Operand.tmp 0), type := 67, pos := "l10_heap.go:30", after := #[], guard := none }) (v := ?vd1) rfl (by kernel_rfl) (by kernel_rfl) (by kernel_rfl) (by kernel_rfl) (fun _ _ _ h => h) (Or.inl ⟨by rfl, ?hyd1⟩) hHeld ?_
  case hyd1 => (intro w hSw; (try dsimp only at hSw); go_simp <;> with_reducible rfl)
  try simp only [Act.put, List.setIfInBounds_toArray, List.set_cons_zero, List.set_cons_succ]
  refine Hld.anyL_take (i := 1) (oi := { dst := some 13, op := Op.move (Operand.tmp 0), type := 67, pos := "l10_heap.go:30", after := #[], guard := none }) (v := ?vd2) rfl (by kernel_rfl) (by kernel_rfl) (by kernel_rfl) (by kernel_rfl) (fun _ _ _ h => h) (Or.inl ⟨by rfl, ?hyd2⟩) hHeld ?_
  case hyd2 => (intro w hSw; (try dsimp only at hSw); go_simp <;> with_reducible rfl)
  try simp only [Act.put, List.setIfInBounds_toArray, List.set_cons_zero, List.set_cons_succ]
  refine Hld.anyL_take (i := 2) (oi := { dst := some 14, op := Op.nilCheck (Operand.tmp 13), type := 0, pos := "l10_heap.go:30", after := #[{ on := 1, ground := Ground.data }], guard := none }) (v := ?vd3) rfl (by kernel_rfl) (by kernel_rfl) (by kernel_rfl) (by kernel_rfl) (fun _ _ _ h => h) (Or.inl ⟨by rfl, ?hyd3⟩) hHeld ?_
  case hyd3 => (intro w hSw; (try dsimp only at hSw); go_simp <;> with_reducible rfl)
  try simp only [Act.put, List.setIfInBounds_toArray, List.set_cons_zero, List.set_cons_succ]
  refine Hld.anyL_take (i := 3) (oi := { dst := some 15, op := Op.load 55 (Operand.tmp 14), type := 55, pos := "l10_heap.go:30", after := #[{ on := 2, ground := Ground.data }], guard := none }) (v := ?vd4) rfl (by kernel_rfl) (by kernel_rfl) (by kernel_rfl) (by kernel_rfl) (fun _ _ _ h => h) (Or.inl ⟨by rfl, ?hyd4⟩) hHeld ?_
  case hyd4 => (intro w hSw; (try dsimp only at hSw); go_simp <;> with_reducible rfl)
  try simp only [Act.put, List.setIfInBounds_toArray, List.set_cons_zero, List.set_cons_succ]
  refine Hld.anyL_take (i := 4) (oi := { dst := some 16, op := Op.load 26 (Operand.tmp 4), type := 26, pos := "l10_heap.go:30", after := #[], guard := none }) (v := ?vd5) rfl (by kernel_rfl) (by kernel_rfl) (by kernel_rfl) (by kernel_rfl) (fun _ _ _ h => h) (Or.inl ⟨by rfl, ?hyd5⟩) hHeld ?_
  case hyd5 => (intro w hSw; (try dsimp only at hSw); go_simp <;> with_reducible rfl)
  try simp only [Act.put, List.setIfInBounds_toArray, List.set_cons_zero, List.set_cons_succ]
  refine Hld.anyL_ready (rs := [5]) (by kernel_rfl) (by simp) ?_
  refine Hld.AllL.cons (o := { dst := some 17, op := Op.buildSlice 55 1 #[(0, Operand.tmp 16)], type := 55, pos := "l10_heap.go:30", after := #[{ on := 4, ground := Ground.data }], guard := none }) rfl (fun K hK => ?_) Hld.AllL.nil
  have HU : Hid (Below W.heap.size W (W.alloc (.cells #[.int .i64 t.1, .int .i64 t.2] 26)).drew) := (Go.Joins.below_alloc1 W _).drew
  go_simp
  clear hHeld
  refine hK.out _ _ (HS.out _ (HQ.out.var.grow HU.out) (HX.out.grow HU.out)) (fun hHeld => ?_)
  clear hK K
  try simp only [Act.put, List.setIfInBounds_toArray, List.set_cons_zero, List.set_cons_succ]
  refine Hld.anyL_ready (rs := [6]) (by kernel_rfl) (by simp) ?_
  refine Hld.AllL.cons (o := { dst := some 18, op := Op.call { callee := Callee.builtin Builtin.append, args := #[Operand.tmp 15, Operand.tmp 17], argTypes := #[55, 55] }, type := 55, pos := "l10_heap.go:30", after := #[{ on := 3, ground := Ground.data }, { on := 5, ground := Ground.data }], guard := none }) rfl (fun K hK => ?_) Hld.AllL.nil
  refine step_appB rfl _ _ 55 (by rfl) 26 i0 _ 2 16 Try.underlying55 HI.out.1 HI.out.2.1 HI.out.2.2.1 HI.out.2.2.2 (by rfl) (by decide) 0 (Nat.zero_le _) (.slice (some ⟨M, 0, none⟩) l.length c) l.length (flatT l) rfl ((HQ.out.grow HU.out).row.own) ⟨W.heap.size, 0, none⟩ 1 1 (flatT [t]) rfl rfl (blk_news (Blk.new W #[.int .i64 t.1, .int .i64 t.2] 26).drew) (flat_one [t]) ?hm1 ?hm2 ?_
  case hm1 => unfold maxLen; omega
  case hm2 => omega
  intro v' wya hown hg hat
  have hown3 : wya.ownsRow 0 26 2 v' (l ++ [t]).length (flatT (l ++ [t])) := by rw [flat_app, List.length_append]; exact hown
  obtain ⟨M3, c3, rfl, hot⟩ := ot_of hown3 (fun e => by
    rcases hat with e2 | e2
    · rw [e] at e2; cases e2
    · rw [e] at e2; cases e2)
  have N3 : Hid (Blk wya B #[.slice (some ⟨M, 0, none⟩) l.length c] 55) := blk_far (HQ.out.var.grow HU.out) hg (fun e => HN.out.1 (Option.some.inj e))
  have X3 : Hid (Blk wya w.heap.size #[.int .i64 t.1, .int .i64 t.2] 26) := blk_far (HX.out.grow HU.out) hg (fun e => by have := HN.out.2.1; have h2 : w.heap.size = M := Option.some.inj e; omega)
  have A3 : Hid (OT 0 wya M3 c3 (l ++ [t])) := hot
  have O3 : Hid (But B M w wya) := (But.of (grow_on HB.out HU.out)).trans (But.apart (apart_grown hg))
  have M3' : Hid (M3 = M ∨ w.heap.size ≤ M3) := by
    rcases hat with e | e
    · exact .inl (Option.some.inj e)
    · refine .inr ?_
      have h2 : M3 = (W.alloc (.cells #[.int .i64 t.1, .int .i64 t.2] 26)).drew.heap.size := Option.some.inj e
      have h3 := HB.out.size
      have h4 := HU.out.size
      omega
  clear hown hown3 hg hat hot
  clear hHeld
  refine hK.out _ _ (HS.out _ N3.out X3.out) (fun hHeld => ?_)
  clear hK K
  try simp only [Act.put, List.setIfInBounds_toArray, List.set_cons_zero, List.set_cons_succ]
  refine Hld.anyL_ready (rs := [7]) (by kernel_rfl) (by simp) ?_
  refine Hld.AllL.cons (o := { dst := some 19, op := Op.nilCheck (Operand.tmp 12), type := 0, pos := "l10_heap.go:30", after := #[{ on := 0, ground := Ground.data }, { on := 0, ground := Ground.phase }, { on := 1, ground := Ground.phase }, { on := 2, ground := Ground.phase }, { on := 3, ground := Ground.phase }, { on := 4, ground := Ground.phase }, { on := 5, ground := Ground.phase }, { on := 6, ground := Ground.phase }], guard := none }) rfl (fun K hK => ?_) Hld.AllL.nil
  go_simp
  clear hHeld
  refine hK.out _ _ (HS.out _ N3.out X3.out) (fun hHeld => ?_)
  clear hK K
  try simp only [Act.put, List.setIfInBounds_toArray, List.set_cons_zero, List.set_cons_succ]
  refine Hld.anyL_ready (rs := [8]) (by kernel_rfl) (by simp) ?_
  refine Hld.AllL.last (o := { dst := none, op := Op.store 55 (Operand.tmp 19) (Operand.tmp 18), type := 0, pos := "l10_heap.go:30", after := #[{ on := 7, ground := Ground.data }, { on := 6, ground := Ground.data }, { on := 6, ground := Ground.chain }, { on := 0, ground := Ground.phase }, { on := 1, ground := Ground.phase }, { on := 2, ground := Ground.phase }, { on := 3, ground := Ground.phase }, { on := 4, ground := Ground.phase }, { on := 5, ground := Ground.phase }, { on := 6, ground := Ground.phase }], guard := none }) rfl (fun K hK => ?_)
  have n0 := N3.out.cell 0
  have nf := N3.out.frozen 0
  go_simp
  refine hK.out _ _ ?_
  clear hK K n0 nf
  try simp only [Act.put, List.setIfInBounds_toArray, List.set_cons_zero, List.set_cons_succ]
  refine Hld.anyL_done (by kernel_rfl) ?_ _
  go_wp2
  go_end0
  exact ⟨rfl, M3, c3, ⟨by rw [List.length_append]; exact N3.out.set 0 _, ot_var A3.out N3.out (by decide) 0 _, ne_var A3.out N3.out (by decide)⟩, O3.out.setVar 0 _, M3'.out⟩
end Go.Proofs.Ytcjhieknmblbbaa.HpKP
