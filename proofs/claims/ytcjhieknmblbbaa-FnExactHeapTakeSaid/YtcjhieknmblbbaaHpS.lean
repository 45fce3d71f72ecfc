/-
  PROVED: spec.HeapPut answers a row of the call's own that holds what the plain put says; nothing that was there is changed.
-/
import Derived.Test.YtcjhieknmblbbaaTmR
import Derived.Deep.RegionHeld3
import Derived.Deep.DeepCutAuto
namespace Go.Proofs.Ytcjhieknmblbbaa.HpS
open Go.RowKit
open Go.Proofs.Ytcjhieknmblbbaa.Hp Go.Proofs.Ytcjhieknmblbbaa.Tms Go.Proofs.Ytcjhieknmblbbaa.TmO Go.Proofs.Ytcjhieknmblbbaa.TmR Go.Proofs.Ytcjhieknmblbbaa.Over Go.Proofs.Ytcjhieknmblbbaa.Blk Go.Proofs.Ytcjhieknmblbbaa.App
set_option linter.unusedVariables false
attribute [local go_sem] Oper.semAt_some
theorem bel_alloc {B : Nat} {w w' : World} (h : Below B w w') (o : Obj) (hB : B ≤ w.heap.size) : Below B w (w'.alloc o) := h.alloc (Nat.le_trans hB h.size) o
theorem own_up {w w' : World} {B : Nat} {e : TypeId} {size n : Nat} {v : Value} {xs : List Value} (h : w.ownsRow B e size v n xs) (hb : Below w.heap.size w w') : w'.ownsRow B e size v n xs :=
  h.kept (bel_grown hb) (by cases hv : v.ownBlock with | none => exact .inl rfl | some k => exact .inr (fun e => by cases e))
theorem infoH : ∃ i, Try.prog.info? 26 = some i ∧ i.zero = some (.agg #[.int .i64 0, .int .i64 0]) ∧ i.size = 2 ∧ i.bytes = 16 := by
  have h := infoT
  cases hi : Try.prog.info? 26 with
  | none => rw [hi] at h; cases h
  | some i =>
    rw [hi] at h
    simp only [Option.map_some, Option.some.injEq, Prod.mk.injEq] at h
    exact ⟨i, rfl, h.1, h.2.1, h.2.2⟩

set_option maxRecDepth 100000 in
set_option maxHeartbeats 4000000 in
theorem specPut_any (g o cap : Nat) (l : List Tm) (t : Tm) (w : World) (hr : RdT w (some ⟨g, o, none⟩) l) (hl : l.length ≤ 10000000) :
    Calls Try.prog 25 #[.slice (some ⟨g, o, none⟩) l.length cap, .agg #[.int .i64 t.1, .int .i64 t.2]] w fun e w' => (∃ M c, e = .returned (.slice (some ⟨M, 0, none⟩) (putT l t).length c) ∧ OT w.heap.size w' M c (putT l t)) ∧ Below w.heap.size w w' := by
  have HR0 : Hid (RdT w (some ⟨g, o, none⟩) l) := hr
  clear hr
  obtain ⟨i0, hi, hz0, hz1, hz2⟩ := infoH
  have HI : Hid (Try.prog.info? 26 = some i0 ∧ i0.zero = some (.agg #[.int .i64 0, .int .i64 0]) ∧ i0.size = 2 ∧ i0.bytes = 16) := ⟨hi, hz0, hz1, hz2⟩
  clear hi hz0 hz1 hz2
  go_enter Try.func25, Try.ntmps25
  go_upto_region 1 with fail
  generalize hz : w.alloc (.cells #[.int .i64 t.1, .int .i64 t.2] 26) = W
  have HX : Hid (Blk W w.heap.size #[.int .i64 t.1, .int .i64 t.2] 26) := by rw [← hz]; exact Blk.new _ _ _
  have HB : Hid (Below w.heap.size w W) := by rw [← hz]; exact Go.Joins.below_alloc1 w _
  have HZ : Hid (w.heap.size < W.heap.size) := by unfold Hid; rw [← hz]; simp
  clear hz
  have HR : Hid (RdT W (some ⟨g, o, none⟩) l) := HR0.out.below HB.out
  clear HR0
  go_cut [5] from 8 to 14 (fun s5 wx => ∃ M c, s5 = .slice (some ⟨M, 0, none⟩) (l.length + 1) c ∧ OT w.heap.size wx M c (l ++ [t]) ∧ Below w.heap.size w wx)
  case first =>
    have HS : Hid (∀ w', Below W.heap.size W w' → w'.cell? ⟨w.heap.size, 0, none⟩ = some (.int .i64 t.1) ∧ w'.cell? ⟨w.heap.size, 1, none⟩ = some (.int .i64 t.2)) := fun w' h => ⟨(HX.out.grow h).cell 0, (HX.out.grow h).cell 1⟩
    refine wp_region_held_drew (S := fun w' => w'.cell? ⟨w.heap.size, 0, none⟩ = some (.int .i64 t.1) ∧ w'.cell? ⟨w.heap.size, 1, none⟩ = some (.int .i64 t.2)) (by kernel_rfl) (HS.out _ (Below.refl W.heap.size W).drew) (fun hHeld => ?_)
    refine wpAnyH_take (i := 1) (oi := { dst := some 9, op := Op.move (Operand.tmp 0), type := 24, pos := "l10_heap.go:17", after := #[], guard := none }) (v := ?vp1) rfl (by kernel_rfl) (by kernel_rfl) (by kernel_rfl) (fun _ _ _ h => h) (Or.inl ⟨by rfl, ?hyp1⟩) hHeld ?_
    case hyp1 => (intro w hSw; (try dsimp only at hSw); go_simp <;> with_reducible rfl)
    try simp only [Act.put, List.setIfInBounds_toArray, List.set_cons_zero, List.set_cons_succ]
    refine wpAnyH_take (i := 3) (oi := { dst := some 11, op := Op.load 26 (Operand.tmp 3), type := 26, pos := "l10_heap.go:17", after := #[], guard := none }) (v := ?vp2) rfl (by kernel_rfl) (by kernel_rfl) (by kernel_rfl) (fun _ _ _ h => h) (Or.inl ⟨by rfl, ?hyp2⟩) hHeld ?_
    case hyp2 => (intro w hSw; (try dsimp only at hSw); go_simp <;> with_reducible rfl)
    try simp only [Act.put, List.setIfInBounds_toArray, List.set_cons_zero, List.set_cons_succ]
    refine wpAnyH_ready (rs := [0, 4]) (by kernel_rfl) (by simp) ?_
    refine AllReadyH.cons (o := { dst := some 8, op := Op.buildSlice 24 0 #[], type := 24, pos := "l10_heap.go:17", after := #[], guard := none }) rfl (fun K hK => ?_) ?_
    ·
      go_simp
      clear hHeld
      refine hK.out _ _ (HS.out _ ((bel_alloc (Below.refl W.heap.size W).drew _ (Nat.le_refl _)))) (fun hHeld => ?_)
      clear hK K
      try simp only [Act.put, List.setIfInBounds_toArray, List.set_cons_zero, List.set_cons_succ]
      refine wpAnyH_ready (rs := [2, 4]) (by kernel_rfl) (by simp) ?_
      refine AllReadyH.cons (o := { dst := some 10, op := Op.call { callee := Callee.builtin Builtin.append, args := #[Operand.tmp 8, Operand.tmp 9], argTypes := #[24, 24] }, type := 24, pos := "l10_heap.go:17", after := #[{ on := 0, ground := Ground.data }, { on := 1, ground := Ground.data }], guard := none }) rfl (fun K hK => ?_) ?_
      ·
        refine step_app (by rfl) _ _ 24 (by rfl) 26 i0 _ 2 16 Try.underlying24 HI.out.1 HI.out.2.1 HI.out.2.2.1 HI.out.2.2.2 (by rfl) (by decide) W (bel_alloc (Below.refl W.heap.size W).drew _ (Nat.le_refl _)) _ 0 [] (by rfl) (own_empty (Blk.new W.drew _ _) (Nat.le_refl _)) ⟨g, o, none⟩ l.length cap (flatT l) (by rfl) (flat_len l) (src_of (HR.out.below (bel_alloc (Below.refl W.heap.size W).drew _ (Nat.le_refl _)))) (flat_one l) ?ph1x0 ?ph1x1 ?_
        case ph1x0 => unfold maxLen; omega
        case ph1x1 => omega
        intro v1 w3 hown1 bl1 hg1 hat1
        rw [Nat.zero_add, List.nil_append] at hown1
        have HO1 : Hid (w3.ownsRow W.heap.size 26 2 v1 l.length (flatT l) ∧ Below W.heap.size W w3 ∧ v1.ownBlock ≠ none) := ⟨hown1, bl1, by rcases hat1 with e | e <;> rw [e] <;> simp [Value.ownBlock]⟩
        clear hown1 bl1 hg1 hat1
        clear hHeld
        refine hK.out _ _ (HS.out _ (HO1.out.2.1)) (fun hHeld => ?_)
        clear hK K
        try simp only [Act.put, List.setIfInBounds_toArray, List.set_cons_zero, List.set_cons_succ]
        refine wpAnyH_ready (rs := [4]) (by kernel_rfl) (by simp) ?_
        refine AllReadyH.cons (o := { dst := some 12, op := Op.buildSlice 24 1 #[(0, Operand.tmp 11)], type := 24, pos := "l10_heap.go:17", after := #[{ on := 3, ground := Ground.data }], guard := none }) rfl (fun K hK => ?_) AllReadyH.nil
        go_simp
        clear hHeld
        refine hK.out _ _ (HS.out _ ((bel_alloc HO1.out.2.1 _ (Nat.le_refl _)))) (fun hHeld => ?_)
        clear hK K
        try simp only [Act.put, List.setIfInBounds_toArray, List.set_cons_zero, List.set_cons_succ]
        refine wpAnyH_ready (rs := [5]) (by kernel_rfl) (by simp) ?_
        refine AllReadyH.cons (o := { dst := some 13, op := Op.call { callee := Callee.builtin Builtin.append, args := #[Operand.tmp 10, Operand.tmp 12], argTypes := #[24, 24] }, type := 24, pos := "l10_heap.go:17", after := #[{ on := 2, ground := Ground.data }, { on := 4, ground := Ground.data }, { on := 2, ground := Ground.chain }], guard := none }) rfl (fun K hK => ?_) AllReadyH.nil
        refine step_app (by rfl) _ _ 24 (by rfl) 26 i0 _ 2 16 Try.underlying24 HI.out.1 HI.out.2.1 HI.out.2.2.1 HI.out.2.2.2 (by rfl) (by decide) W (bel_alloc HO1.out.2.1 _ (Nat.le_refl _)) v1 l.length (flatT l) (by rfl) ((own_up HO1.out.1 (Go.Joins.below_alloc1 w3 _))) ⟨w3.heap.size, 0, none⟩ 1 1 (flatT [t]) (by rfl) (by rfl) (blk_news (Blk.new w3 _ _)) (flat_one [t]) ?ph2x0 ?ph2x1 ?_
        case ph2x0 => unfold maxLen; omega
        case ph2x1 => omega
        intro v2 w4 hown2 bl2 hg2 hat2
        have hown3 : w4.ownsRow W.heap.size 26 2 v2 (l ++ [t]).length (flatT (l ++ [t])) := by rw [flat_app, List.length_append]; exact hown2
        obtain ⟨M, c, ev, hot⟩ := ot_of hown3 (fun e => by
          rcases hat2 with e2 | e2
          · exact HO1.out.2.2 (by rw [← e2, e]; rfl)
          · rw [e] at e2; cases e2)
        subst ev
        have HO2 : Hid (OT w.heap.size w4 M c (l ++ [t]) ∧ Below W.heap.size W w4) := ⟨hot.down (by have := HZ.out; omega), bl2⟩
        clear hown2 hown3 bl2 hg2 hat2 hot
        clear hHeld
        refine hK.out _ _ (HS.out _ (HO2.out.2)) (fun hHeld => ?_)
        clear hK K
        try simp only [Act.put, List.setIfInBounds_toArray, List.set_cons_zero, List.set_cons_succ]
        refine wpAnyH_take (i := 6) (oi := { dst := some 5, op := Op.assign (Operand.tmp 13), type := 24, pos := "l10_heap.go:17", after := #[{ on := 5, ground := Ground.data }, { on := 5, ground := Ground.chain }, { on := 0, ground := Ground.phase }, { on := 1, ground := Ground.phase }, { on := 2, ground := Ground.phase }, { on := 3, ground := Ground.phase }, { on := 4, ground := Ground.phase }, { on := 5, ground := Ground.phase }], guard := none }) (v := ?vp7) rfl (by kernel_rfl) (by kernel_rfl) (by kernel_rfl) (fun _ _ _ h => h) (Or.inl ⟨by rfl, ?hyp7⟩) hHeld ?_
        case hyp7 => (intro w hSw; (try dsimp only at hSw); go_simp <;> with_reducible rfl)
        try simp only [Act.put, List.setIfInBounds_toArray, List.set_cons_zero, List.set_cons_succ]
        refine wpAnyH_done (by kernel_rfl) ?_ _
        clear hHeld
        go_wp2_with fail
        go_meet
        exact ⟨M, c, by simp, HO2.out.1, grow_on HB.out HO2.out.2⟩
      refine AllReadyH.cons (o := { dst := some 12, op := Op.buildSlice 24 1 #[(0, Operand.tmp 11)], type := 24, pos := "l10_heap.go:17", after := #[{ on := 3, ground := Ground.data }], guard := none }) rfl (fun K hK => ?_) AllReadyH.nil
      go_simp
      clear hHeld
      refine hK.out _ _ (HS.out _ ((bel_alloc (bel_alloc (Below.refl W.heap.size W).drew _ (Nat.le_refl _)) _ (Nat.le_refl _)))) (fun hHeld => ?_)
      clear hK K
      try simp only [Act.put, List.setIfInBounds_toArray, List.set_cons_zero, List.set_cons_succ]
      refine wpAnyH_ready (rs := [2]) (by kernel_rfl) (by simp) ?_
      refine AllReadyH.cons (o := { dst := some 10, op := Op.call { callee := Callee.builtin Builtin.append, args := #[Operand.tmp 8, Operand.tmp 9], argTypes := #[24, 24] }, type := 24, pos := "l10_heap.go:17", after := #[{ on := 0, ground := Ground.data }, { on := 1, ground := Ground.data }], guard := none }) rfl (fun K hK => ?_) AllReadyH.nil
      refine step_app (by rfl) _ _ 24 (by rfl) 26 i0 _ 2 16 Try.underlying24 HI.out.1 HI.out.2.1 HI.out.2.2.1 HI.out.2.2.2 (by rfl) (by decide) W (bel_alloc (bel_alloc (Below.refl W.heap.size W).drew _ (Nat.le_refl _)) _ (Nat.le_refl _)) _ 0 [] (by rfl) (own_empty ((Blk.new W.drew _ _).alloc _) (Nat.le_refl _)) ⟨g, o, none⟩ l.length cap (flatT l) (by rfl) (flat_len l) (src_of (HR.out.below (bel_alloc (bel_alloc (Below.refl W.heap.size W).drew _ (Nat.le_refl _)) _ (Nat.le_refl _)))) (flat_one l) ?ph3x0 ?ph3x1 ?_
      case ph3x0 => unfold maxLen; omega
      case ph3x1 => omega
      intro v1 w3 hown1 bl1 hg1 hat1
      rw [Nat.zero_add, List.nil_append] at hown1
      have HO1 : Hid (w3.ownsRow W.heap.size 26 2 v1 l.length (flatT l) ∧ Below W.heap.size W w3 ∧ v1.ownBlock ≠ none) := ⟨hown1, bl1, by rcases hat1 with e | e <;> rw [e] <;> simp [Value.ownBlock]⟩
      have HB1 : Hid (Blk w3 (W.heap.size + 1) #[.int .i64 t.1, .int .i64 t.2] 26) := blk_far (M := W.heap.size + 1) (Blk.new_at (w := W.alloc (.cells #[] 26)) (by simp)).drew hg1 (fun e => absurd (show W.heap.size + 1 = W.heap.size from Option.some.inj e) (by omega))
      clear hown1 bl1 hg1 hat1
      clear hHeld
      refine hK.out _ _ (HS.out _ (HO1.out.2.1)) (fun hHeld => ?_)
      clear hK K
      try simp only [Act.put, List.setIfInBounds_toArray, List.set_cons_zero, List.set_cons_succ]
      refine wpAnyH_ready (rs := [5]) (by kernel_rfl) (by simp) ?_
      refine AllReadyH.cons (o := { dst := some 13, op := Op.call { callee := Callee.builtin Builtin.append, args := #[Operand.tmp 10, Operand.tmp 12], argTypes := #[24, 24] }, type := 24, pos := "l10_heap.go:17", after := #[{ on := 2, ground := Ground.data }, { on := 4, ground := Ground.data }, { on := 2, ground := Ground.chain }], guard := none }) rfl (fun K hK => ?_) AllReadyH.nil
      refine step_app (by rfl) _ _ 24 (by rfl) 26 i0 _ 2 16 Try.underlying24 HI.out.1 HI.out.2.1 HI.out.2.2.1 HI.out.2.2.2 (by rfl) (by decide) W HO1.out.2.1 v1 l.length (flatT l) (by rfl) (HO1.out.1) ⟨W.heap.size + 1, 0, none⟩ 1 1 (flatT [t]) (by rfl) (by rfl) (blk_news (HB1.out)) (flat_one [t]) ?ph4x0 ?ph4x1 ?_
      case ph4x0 => unfold maxLen; omega
      case ph4x1 => omega
      intro v2 w4 hown2 bl2 hg2 hat2
      have hown3 : w4.ownsRow W.heap.size 26 2 v2 (l ++ [t]).length (flatT (l ++ [t])) := by rw [flat_app, List.length_append]; exact hown2
      obtain ⟨M, c, ev, hot⟩ := ot_of hown3 (fun e => by
        rcases hat2 with e2 | e2
        · exact HO1.out.2.2 (by rw [← e2, e]; rfl)
        · rw [e] at e2; cases e2)
      subst ev
      have HO2 : Hid (OT w.heap.size w4 M c (l ++ [t]) ∧ Below W.heap.size W w4) := ⟨hot.down (by have := HZ.out; omega), bl2⟩
      clear hown2 hown3 bl2 hg2 hat2 hot
      clear hHeld
      refine hK.out _ _ (HS.out _ (HO2.out.2)) (fun hHeld => ?_)
      clear hK K
      try simp only [Act.put, List.setIfInBounds_toArray, List.set_cons_zero, List.set_cons_succ]
      refine wpAnyH_take (i := 6) (oi := { dst := some 5, op := Op.assign (Operand.tmp 13), type := 24, pos := "l10_heap.go:17", after := #[{ on := 5, ground := Ground.data }, { on := 5, ground := Ground.chain }, { on := 0, ground := Ground.phase }, { on := 1, ground := Ground.phase }, { on := 2, ground := Ground.phase }, { on := 3, ground := Ground.phase }, { on := 4, ground := Ground.phase }, { on := 5, ground := Ground.phase }], guard := none }) (v := ?vp11) rfl (by kernel_rfl) (by kernel_rfl) (by kernel_rfl) (fun _ _ _ h => h) (Or.inl ⟨by rfl, ?hyp11⟩) hHeld ?_
      case hyp11 => (intro w hSw; (try dsimp only at hSw); go_simp <;> with_reducible rfl)
      try simp only [Act.put, List.setIfInBounds_toArray, List.set_cons_zero, List.set_cons_succ]
      refine wpAnyH_done (by kernel_rfl) ?_ _
      clear hHeld
      go_wp2_with fail
      go_meet
      exact ⟨M, c, by simp, HO2.out.1, grow_on HB.out HO2.out.2⟩
    refine AllReadyH.cons (o := { dst := some 12, op := Op.buildSlice 24 1 #[(0, Operand.tmp 11)], type := 24, pos := "l10_heap.go:17", after := #[{ on := 3, ground := Ground.data }], guard := none }) rfl (fun K hK => ?_) AllReadyH.nil
    go_simp
    clear hHeld
    refine hK.out _ _ (HS.out _ ((bel_alloc (Below.refl W.heap.size W).drew _ (Nat.le_refl _)))) (fun hHeld => ?_)
    clear hK K
    try simp only [Act.put, List.setIfInBounds_toArray, List.set_cons_zero, List.set_cons_succ]
    refine wpAnyH_ready (rs := [0]) (by kernel_rfl) (by simp) ?_
    refine AllReadyH.cons (o := { dst := some 8, op := Op.buildSlice 24 0 #[], type := 24, pos := "l10_heap.go:17", after := #[], guard := none }) rfl (fun K hK => ?_) AllReadyH.nil
    go_simp
    clear hHeld
    refine hK.out _ _ (HS.out _ ((bel_alloc (bel_alloc (Below.refl W.heap.size W).drew _ (Nat.le_refl _)) _ (Nat.le_refl _)))) (fun hHeld => ?_)
    clear hK K
    try simp only [Act.put, List.setIfInBounds_toArray, List.set_cons_zero, List.set_cons_succ]
    refine wpAnyH_ready (rs := [2]) (by kernel_rfl) (by simp) ?_
    refine AllReadyH.cons (o := { dst := some 10, op := Op.call { callee := Callee.builtin Builtin.append, args := #[Operand.tmp 8, Operand.tmp 9], argTypes := #[24, 24] }, type := 24, pos := "l10_heap.go:17", after := #[{ on := 0, ground := Ground.data }, { on := 1, ground := Ground.data }], guard := none }) rfl (fun K hK => ?_) AllReadyH.nil
    refine step_app (by rfl) _ _ 24 (by rfl) 26 i0 _ 2 16 Try.underlying24 HI.out.1 HI.out.2.1 HI.out.2.2.1 HI.out.2.2.2 (by rfl) (by decide) W (bel_alloc (bel_alloc (Below.refl W.heap.size W).drew _ (Nat.le_refl _)) _ (Nat.le_refl _)) _ 0 [] (by rfl) (own_empty (Blk.new_at (by simp)) (by omega)) ⟨g, o, none⟩ l.length cap (flatT l) (by rfl) (flat_len l) (src_of (HR.out.below (bel_alloc (bel_alloc (Below.refl W.heap.size W).drew _ (Nat.le_refl _)) _ (Nat.le_refl _)))) (flat_one l) ?ph5x0 ?ph5x1 ?_
    case ph5x0 => unfold maxLen; omega
    case ph5x1 => omega
    intro v1 w3 hown1 bl1 hg1 hat1
    rw [Nat.zero_add, List.nil_append] at hown1
    have HO1 : Hid (w3.ownsRow W.heap.size 26 2 v1 l.length (flatT l) ∧ Below W.heap.size W w3 ∧ v1.ownBlock ≠ none) := ⟨hown1, bl1, by rcases hat1 with e | e <;> rw [e] <;> simp [Value.ownBlock]⟩
    have HB1 : Hid (Blk w3 W.heap.size #[.int .i64 t.1, .int .i64 t.2] 26) := blk_far (M := W.heap.size) ((Blk.new W _ _).alloc _).drew hg1 (fun e => absurd (show W.heap.size = W.heap.size + 1 from Option.some.inj e) (by omega))
    clear hown1 bl1 hg1 hat1
    clear hHeld
    refine hK.out _ _ (HS.out _ (HO1.out.2.1)) (fun hHeld => ?_)
    clear hK K
    try simp only [Act.put, List.setIfInBounds_toArray, List.set_cons_zero, List.set_cons_succ]
    refine wpAnyH_ready (rs := [5]) (by kernel_rfl) (by simp) ?_
    refine AllReadyH.cons (o := { dst := some 13, op := Op.call { callee := Callee.builtin Builtin.append, args := #[Operand.tmp 10, Operand.tmp 12], argTypes := #[24, 24] }, type := 24, pos := "l10_heap.go:17", after := #[{ on := 2, ground := Ground.data }, { on := 4, ground := Ground.data }, { on := 2, ground := Ground.chain }], guard := none }) rfl (fun K hK => ?_) AllReadyH.nil
    refine step_app (by rfl) _ _ 24 (by rfl) 26 i0 _ 2 16 Try.underlying24 HI.out.1 HI.out.2.1 HI.out.2.2.1 HI.out.2.2.2 (by rfl) (by decide) W HO1.out.2.1 v1 l.length (flatT l) (by rfl) (HO1.out.1) ⟨W.heap.size, 0, none⟩ 1 1 (flatT [t]) (by rfl) (by rfl) (blk_news (HB1.out)) (flat_one [t]) ?ph6x0 ?ph6x1 ?_
    case ph6x0 => unfold maxLen; omega
    case ph6x1 => omega
    intro v2 w4 hown2 bl2 hg2 hat2
    have hown3 : w4.ownsRow W.heap.size 26 2 v2 (l ++ [t]).length (flatT (l ++ [t])) := by rw [flat_app, List.length_append]; exact hown2
    obtain ⟨M, c, ev, hot⟩ := ot_of hown3 (fun e => by
      rcases hat2 with e2 | e2
      · exact HO1.out.2.2 (by rw [← e2, e]; rfl)
      · rw [e] at e2; cases e2)
    subst ev
    have HO2 : Hid (OT w.heap.size w4 M c (l ++ [t]) ∧ Below W.heap.size W w4) := ⟨hot.down (by have := HZ.out; omega), bl2⟩
    clear hown2 hown3 bl2 hg2 hat2 hot
    clear hHeld
    refine hK.out _ _ (HS.out _ (HO2.out.2)) (fun hHeld => ?_)
    clear hK K
    try simp only [Act.put, List.setIfInBounds_toArray, List.set_cons_zero, List.set_cons_succ]
    refine wpAnyH_take (i := 6) (oi := { dst := some 5, op := Op.assign (Operand.tmp 13), type := 24, pos := "l10_heap.go:17", after := #[{ on := 5, ground := Ground.data }, { on := 5, ground := Ground.chain }, { on := 0, ground := Ground.phase }, { on := 1, ground := Ground.phase }, { on := 2, ground := Ground.phase }, { on := 3, ground := Ground.phase }, { on := 4, ground := Ground.phase }, { on := 5, ground := Ground.phase }], guard := none }) (v := ?vp16) rfl (by kernel_rfl) (by kernel_rfl) (by kernel_rfl) (fun _ _ _ h => h) (Or.inl ⟨by rfl, ?hyp16⟩) hHeld ?_
    case hyp16 => (intro w hSw; (try dsimp only at hSw); go_simp <;> with_reducible rfl)
    try simp only [Act.put, List.setIfInBounds_toArray, List.set_cons_zero, List.set_cons_succ]
    refine wpAnyH_done (by kernel_rfl) ?_ _
    clear hHeld
    go_wp2_with fail
    go_meet
    exact ⟨M, c, by simp, HO2.out.1, grow_on HB.out HO2.out.2⟩
  case rest =>
    obtain ⟨M, c, rfl, hot, hb⟩ := hcut
    have HO0 : Hid (OT w.heap.size wc M c (l ++ [t]) ∧ Below w.heap.size w wc) := ⟨hot, hb⟩
    have HP : Hid (up (l ++ [t]) l.length = putT l t) := rfl
    clear hot hb HX HB HZ HR HI
    have hel : (l.length : Int) + 1 - 1 = (l.length : Int) := by omega
    obtain ⟨n, hn⟩ : ∃ n, l.length = n := ⟨_, rfl⟩
    have HL : Hid ((l ++ [t]).length = n + 1) := by unfold Hid; simp [hn]
    rw [hn] at hl hel HP
    rw [hn]
    clear hn
    go_wp2
    go_loopw [6] (fun i w' => ∃ (k : Nat) (m : List Tm), i = .int .i64 k ∧ k ≤ n ∧ m.length = n + 1 ∧ up m k = putT l t ∧ OT w.heap.size w' M c m ∧ Below w.heap.size w w') (fun i _ => (intOf i).toNat)
    case atStart => exact ⟨n, l ++ [t], by go_num, Nat.le_refl _, HL.out, HP.out, HO0.out.1, HO0.out.2⟩
    case round =>
      clear HO0 HP HL
      obtain ⟨k, m, rfl, hk, hm, hu, ho, hb⟩ := hrel
      have HB2 : Hid (Below w.heap.size w wr) := hb
      have HO : Hid (OT w.heap.size wr M c m) := ho
      have HM : Hid (m.length = n + 1 ∧ up m k = putT l t) := ⟨hm, hu⟩
      have hne := Grown.some wr
      clear hb hu
      by_cases k0 : k = 0
      · have HU : Hid (up m k = m) := up_stop (fun h => absurd h.1 (by omega))
        have bk : decide (0 < k) = false := decide_eq_false (by omega)
        clear k0 ho hm
        go_wp2
        refine wp_over (z := wr) (by kernel_rfl) (by kernel_rfl) (Below.refl _ _) ?_
        repeat (go_big_quiet_step (fail))
        refine wpQuiet_nil ?_
        intro w2 hw2
        have hb2 := over_bel hw2
        clear hw2 hne
        go_wp2
        go_ret
        exact ⟨⟨M, c, by rw [← HM.out.2, HU.out, HM.out.1]; rfl, by rw [← HM.out.2, HU.out]; exact HO.out.grow hb2⟩, HB2.out.trans (hb2.mono HB2.out.size)⟩
      have bk : decide (0 < k) = true := decide_eq_true (by omega)
      have hq : Int.tdiv ((k : Int) - 1) 2 = ((par k : Nat) : Int) := by unfold par; rw [Int.tdiv_eq_ediv_of_nonneg (by omega)]; omega
      have hpk : par k < k := by unfold par; omega
      have hpn : ((par k : Nat) : Int) < (n : Int) + 1 := by omega
      have hkn : (k : Int) < (n : Int) + 1 := by omega
      have hpn2 : par k < n + 1 := by omega
      have hkn2 : k < n + 1 := by omega
      obtain ⟨cs, hM, hcs, hh⟩ := ho.row
      have hMl := hM.lt
      have HH : Hid (Blk wr M cs 26 ∧ cs.size = c * 2 ∧ HeldT cs m m.length) := ⟨hM, hcs, hh⟩
      have h0 := hh k (by omega)
      have h1 := hh (par k) (by omega)
      have x0 := fun x : Grown wr => x.cell (p := ⟨M, k * 2, none⟩) hMl ((hM.cell _).trans h0.1)
      have x1 := fun x : Grown wr => x.cell (p := ⟨M, k * 2 + 1, none⟩) hMl ((hM.cell _).trans h0.2)
      have x2 := fun x : Grown wr => x.cell (p := ⟨M, par k * 2, none⟩) hMl ((hM.cell _).trans h1.1)
      have x3 := fun x : Grown wr => x.cell (p := ⟨M, par k * 2 + 1, none⟩) hMl ((hM.cell _).trans h1.2)
      clear hM hcs hh
      by_cases cb : befB (nthT m k) (nthT m (par k)) = true
      · have HC : ∀ w, Hid (Calls Try.prog 29 #[.agg #[.int .i64 (nthT m k).1, .int .i64 (nthT m k).2], .agg #[.int .i64 (nthT m (par k)).1, .int .i64 (nthT m (par k)).2]] w fun e w' => e = .returned (.bool true) ∧ Below w.heap.size w w') := fun w => (specBefore_any (nthT m k) (nthT m (par k)) w).mono fun e w' h => ⟨h.1.trans (retB cb), h.2⟩
        have HG : Hid (up (swp m k (par k)) (par k) = putT l t ∧ (swp m k (par k)).length = n + 1) := ⟨by rw [← HM.out.2, up_go (by omega) cb], by rw [swp_len]; exact HM.out.1⟩
        have HW : Hid (par k < k) := hpk
        clear cb k0 ho hm h0 h1 hpk
        generalize par k = q at *
        go_wp2
        refine wp_over (z := wr) (by kernel_rfl) (by kernel_rfl) (Below.refl _ _) ?_
        repeat (go_big_quiet_step (first | (go_at_call 29; exact call_over (HC _).out)))
        refine wpQuiet_nil ?_
        intro w2 hw2
        have hb2 := over_bel hw2
        clear hw2 hne
        have HB3 : Hid (Below w.heap.size w w2) := HB2.out.trans (hb2.mono HB2.out.size)
        have HN : Hid (Blk w2 M cs 26) := HH.out.1.grow hb2
        have hlt2 : M < w2.heap.size := HN.out.lt
        have hne2 : M ≠ w2.heap.size := by omega
        have h0 := HH.out.2.2 k (by rw [HM.out.1]; omega)
        have h1 := HH.out.2.2 q (by rw [HM.out.1]; omega)
        have c0 : w2.cell? ⟨M, k * 2, none⟩ = some (.int .i64 (nthT m k).1) := (HN.out.cell _).trans h0.1
        have c1 : w2.cell? ⟨M, k * 2 + 1, none⟩ = some (.int .i64 (nthT m k).2) := (HN.out.cell _).trans h0.2
        have c2 : w2.cell? ⟨M, q * 2, none⟩ = some (.int .i64 (nthT m q).1) := (HN.out.cell _).trans h1.1
        have c3 : w2.cell? ⟨M, q * 2 + 1, none⟩ = some (.int .i64 (nthT m q).2) := (HN.out.cell _).trans h1.2
        have f0 := HN.out.frozen (k * 2)
        have f1 := HN.out.frozen (k * 2 + 1)
        have f2 := HN.out.frozen (q * 2)
        have f3 := HN.out.frozen (q * 2 + 1)
        have HQ : Hid (q < m.length ∧ k < m.length ∧ m.length * 2 ≤ cs.size) := ⟨by rw [HM.out.1]; exact hpn2, by rw [HM.out.1]; exact hkn2, by rw [HH.out.2.1]; have := HO.out.le; omega⟩
        clear h0 h1 x0 x1 x2 x3 hb2 HC
        go_upto_region 7 with fail
        generalize hW : (((w2.setCell ⟨M, k * 2, none⟩ (.int .i64 (nthT m q).1)).setCell ⟨M, k * 2 + 1, none⟩ (.int .i64 (nthT m q).2)).alloc (.cells #[.int .i64 (nthT m k).1, .int .i64 (nthT m k).2] 26)) = W3
        have H3 : Hid (Blk W3 M ((cs.setIfInBounds (k * 2) (.int .i64 (nthT m q).1)).setIfInBounds (k * 2 + 1) (.int .i64 (nthT m q).2)) 26) := by rw [← hW]; exact ((HN.out.set _ _).set _ _).alloc _
        have HX3 : Hid (Blk W3 w2.heap.size #[.int .i64 (nthT m k).1, .int .i64 (nthT m k).2] 26) := by rw [← hW]; exact Blk.new_at (by simp)
        have HB4 : Hid (Below w.heap.size w W3) := by rw [← hW]; exact ((HB3.out.setCell (p := ⟨M, k * 2, none⟩) HO.out.lo _).setCell (p := ⟨M, k * 2 + 1, none⟩) HO.out.lo _).alloc (by simp; exact HB3.out.size) _
        clear hW c0 c1 c2 c3 f0 f1 f2 f3
        have hs := H3.out
        have e0 : W3.cell? ⟨w2.heap.size, 0, none⟩ = some (.int .i64 (nthT m k).1) := HX3.out.cell 0
        have e1 : W3.cell? ⟨w2.heap.size, 1, none⟩ = some (.int .i64 (nthT m k).2) := HX3.out.cell 1
        have hsz : q * 2 + 1 < ((cs.setIfInBounds (k * 2) (.int .i64 (nthT m q).1)).setIfInBounds (k * 2 + 1) (.int .i64 (nthT m q).2)).size := by simp; have := HQ.out; omega
        obtain ⟨v2, c2⟩ : ∃ v, W3.cell? ⟨M, q * 2, none⟩ = some v := ⟨_, (hs.cell _).trans (Array.getElem?_eq_getElem (by omega))⟩
        obtain ⟨v3, c3⟩ : ∃ v, W3.cell? ⟨M, q * 2 + 1, none⟩ = some v := ⟨_, (hs.cell _).trans (Array.getElem?_eq_getElem hsz)⟩
        have f2 := hs.frozen (q * 2)
        have f3 := hs.frozen (q * 2 + 1)
        clear hs hsz
        go_wp2
        go_roundw
        case rel => exact ⟨q, swp m k q, by go_num, by have := HW.out; omega, HG.out.2, HG.out.1, ⟨HO.out.lo, by rw [swp_len]; exact HO.out.le, HO.out.cap, swpC cs m k q, (H3.out.set _ _).set _ _, by rw [swpC_size]; exact HH.out.2.1, swpC_held HH.out.2.2 HQ.out.2.1 HQ.out.1 HQ.out.2.2⟩, (HB4.out.setCell (p := ⟨M, q * 2, none⟩) HO.out.lo _).setCell (p := ⟨M, q * 2 + 1, none⟩) HO.out.lo _⟩
        case measure => have := HW.out; simp [intOf]; omega
      · have cb' : befB (nthT m k) (nthT m (par k)) = false := by simpa using cb
        have HC : ∀ w, Hid (Calls Try.prog 29 #[.agg #[.int .i64 (nthT m k).1, .int .i64 (nthT m k).2], .agg #[.int .i64 (nthT m (par k)).1, .int .i64 (nthT m (par k)).2]] w fun e w' => e = .returned (.bool false) ∧ Below w.heap.size w w') := fun w => (specBefore_any (nthT m k) (nthT m (par k)) w).mono fun e w' h => ⟨h.1.trans (retB cb'), h.2⟩
        have HU : Hid (up m k = m) := up_stop (fun h => cb h.2)
        clear cb cb' k0 ho hm h0 h1
        generalize par k = q at *
        go_wp2
        refine wp_over (z := wr) (by kernel_rfl) (by kernel_rfl) (Below.refl _ _) ?_
        repeat (go_big_quiet_step (first | (go_at_call 29; exact call_over (HC _).out)))
        refine wpQuiet_nil ?_
        intro w2 hw2
        have hb2 := over_bel hw2
        clear hw2 hne
        go_wp2
        go_ret
        exact ⟨⟨M, c, by rw [← HM.out.2, HU.out, HM.out.1]; rfl, by rw [← HM.out.2, HU.out]; exact HO.out.grow hb2⟩, HB2.out.trans (hb2.mono HB2.out.size)⟩
end Go.Proofs.Ytcjhieknmblbbaa.HpS
