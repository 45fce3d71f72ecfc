/-
  PROVED: the contract of l6Any: a drawn chain, bent or not, in memory of its own; nothing that was there is changed but the cursor.
-/
import Derived.Test.YtcopckbpflmmeaaDrawC
namespace Go.Proofs.Ytcopckbpflmmeaa.DrawD
open Go.RowKit
open Go.Proofs.Ytcopckbpflmmeaa.Draw
open Go.Proofs.Ytcopckbpflmmeaa.Labs Go.Proofs.Ytcopckbpflmmeaa.LabS Go.Proofs.Ytcopckbpflmmeaa.Over Go.Proofs.Ytcopckbpflmmeaa.Blk Go.Proofs.Ytcopckbpflmmeaa.App Go.Proofs.Ytcopckbpflmmeaa.DrawL Go.Proofs.Ytcopckbpflmmeaa.DrawT Go.Proofs.Ytcopckbpflmmeaa.Alms Go.Proofs.Ytcopckbpflmmeaa.AlmM Go.Proofs.Ytcopckbpflmmeaa.DrawA Go.Proofs.Ytcopckbpflmmeaa.DrawB Go.Proofs.Ytcopckbpflmmeaa.Rws Go.Proofs.Ytcopckbpflmmeaa.ChnI Go.Proofs.Ytcopckbpflmmeaa.ChnC Go.Proofs.Ytcopckbpflmmeaa.ChnP Go.Proofs.Ytcopckbpflmmeaa.ChnS Go.Proofs.Ytcopckbpflmmeaa.ChnU Go.Proofs.Ytcopckbpflmmeaa.ChnK Go.Proofs.Ytcopckbpflmmeaa.DrawC
set_option linter.unusedVariables false

/-- where l6Any stands -/
structure XSt (w : World) (c X : Nat) (f : Int) (wr : World) (u : Value) (M cap : Nat) (rs : List ARow) : Prop where
  cur : Cur wr c
  kept : Kept c w wr
  clt : c < w.heap.size
  ord : w.heap.size < X ∧ X < wr.heap.size
  bR : Blk wr w.heap.size #[.int .i64 0, .slice none 0 0] 26
  bX : Blk wr X #[.int .i64 f, u] 26
  ab : AB (w.heap.size + 1) wr M cap rs
  fine : Fines (pals rs)
theorem XSt.keep {w : World} {c X : Nat} {f : Int} {wr w' : World} {u : Value} {M cap : Nat} {rs : List ARow} (h : XSt w c X f wr u M cap rs) (hc : Cur w' c) (hk : Kept c wr w') : XSt w c X f w' u M cap rs :=
  ⟨hc, h.kept.trans hk, h.clt, ⟨h.ord.1, Nat.lt_of_lt_of_le h.ord.2 hk.size⟩, blk_kept h.bR hk (by have := h.clt; omega), blk_kept h.bX hk (by have := h.clt; have := h.ord; omega), ab_kept h.ab hk (by have := h.clt; omega), h.fine⟩
theorem XSt.grow {w : World} {c X : Nat} {f : Int} {wr w' : World} {u : Value} {M cap : Nat} {rs : List ARow} (h : XSt w c X f wr u M cap rs) (hb : Below wr.heap.size wr w') : XSt w c X f w' u M cap rs := h.keep (cur_bel h.cur hb) (kept_bel hb)
theorem XSt.setF {w : World} {c X : Nat} {f : Int} {wr : World} {u : Value} {M cap : Nat} {rs : List ARow} (h : XSt w c X f wr u M cap rs) (y : Int) : XSt w c X y (wr.setCell ⟨X, 0, none⟩ (.int .i64 y)) u M cap rs := by
  have h0 := h.clt; have h1 := h.ord
  exact ⟨cur_set h.cur (by omega) _ _, DrawC.kept_set h.kept (by omega) _ _, h0, by simpa using h1, h.bR.set_other (by show X ≠ _; omega) _, h.bX.set 0 _, ab_set1 h.ab h.bX _ _, h.fine⟩
theorem XSt.setL {w : World} {c X : Nat} {f : Int} {wr : World} {u : Value} {M cap : Nat} {rs : List ARow} (h : XSt w c X f wr u M cap rs) (u' : Value) : XSt w c X f (wr.setCell ⟨X, 1, none⟩ u') u' M cap rs := by
  have h0 := h.clt; have h1 := h.ord
  exact ⟨cur_set h.cur (by omega) _ _, DrawC.kept_set h.kept (by omega) _ _, h0, by simpa using h1, h.bR.set_other (by show X ≠ _; omega) _, h.bX.set 1 _, ab_set1 h.ab h.bX _ _, h.fine⟩
theorem XSt.fin {w : World} {c X : Nat} {f : Int} {wr : World} {u : Value} {M cap : Nat} {rs : List ARow} (h : XSt w c X f wr u M cap rs) (v0 v1 : Value) : CDr w c ((wr.setCell ⟨w.heap.size, 0, none⟩ v0).setCell ⟨w.heap.size, 1, none⟩ v1) M cap rs :=
  ⟨ab_under (ab_under h.ab (by omega) _ _) (by omega) _ _, cur_set (cur_set h.cur h.clt _ _) h.clt _ _, DrawC.kept_set (DrawC.kept_set h.kept (Nat.le_refl _) _ _) (Nat.le_refl _) _ _, h.clt, h.fine⟩
theorem XSt.app {w : World} {c X : Nat} {f : Int} {W w' : World} {u v' : Value} {M cap : Nat} {rs : List ARow} {y : ARow} {xs : List Value} (h : XSt w c X f W u M cap rs) (hy : OwnA (w.heap.size + 1) W y) (hf : Fine y.2.2) (hne : ∀ x ∈ rs, x.1 ≠ y.1) (hl : xs.length = rs.length * 4) (hxs : ∀ i, i < rs.length → Four (fun k => xs[k]?) i (nthA rs i))
    (hown : w'.ownsRow (w.heap.size + 1) 29 4 v' (rs.length + 1) (xs ++ rowV y)) (hg : W.grownBy w' (some M)) : ∃ M' c', v' = .slice (some ⟨M', 0, none⟩) (rs.length + 1) c' ∧ XSt w c X f w' u M' c' (rs ++ [y]) := by
  have h0 := h.clt; have h1 := h.ord; have h2 := h.ab.at'
  obtain ⟨cu, hcu, _⟩ := h.ab.outer
  obtain ⟨M', c', e, hab⟩ := h.ab.app hy hne hl hxs hown hg
  refine ⟨M', c', e, h.cur.grown hg (fun k hk => by cases hk; omega), kept_grown (B := 0) h.kept hg (fun k hk => by cases hk; omega), h0, ⟨h1.1, Nat.lt_of_lt_of_le h1.2 hg.size⟩, blk_far h.bR hg (fun e => by have := Option.some.inj e; omega), blk_far h.bX hg (fun e => chain_alarm h.bX hcu (Option.some.inj e)), hab, ?_⟩
  rw [pals_app]; exact fines_app h.fine hf
theorem retA {M n n' c : Nat} {f : Int} (h : n = n') : Ending.returned (.agg #[.int .i64 f, .slice (some ⟨M, 0, none⟩) n c]) = .returned (.agg #[.int .i64 f, .slice (some ⟨M, 0, none⟩) n' c]) := by rw [h]

set_option maxRecDepth 100000 in
set_option maxHeartbeats 3200000 in
theorem l6Any_any (c : Nat) (w : World) (hc : Cur w c) :
    Calls Try.prog 42 #[.pointer (some ⟨c, 0, none⟩)] w fun r w' => ∃ (f : Int) (M cap : Nat) (rs : List ARow), r = .returned (.agg #[.int .i64 f, .slice (some ⟨M, 0, none⟩) rs.length cap]) ∧ CDr w c w' M cap rs ∧ rs.length ≤ 5 ∧ I64 f := by
  have HC : Hid (Cur w c) := hc
  have HL : Hid (c < w.heap.size) := hc.lt
  clear hc
  obtain ⟨i0, hi, hz0, hz1, hz2⟩ := info_parts infoA
  go_enter Try.func42, Try.ntmps42
  go_wp2_with fail
  refine (l6Draw_any c _ (HC.out.alloc _)).mono ?_
  rintro r w1 ⟨f, M, cap, rs, rfl, hd, hr0, hr4, hfb⟩
  have HFB : Hid (I64 f) := hfb
  clear hfb
  have HD1 : Hid (CDr (w.alloc (.cells #[.int .i64 0, .slice none 0 0] 26)) c w1 M cap rs) := hd
  have HR1 : Hid (Blk w1 w.heap.size #[.int .i64 0, .slice none 0 0] 26) := blk_kept (Blk.new _ _ _) hd.kept (by have := HL.out; omega)
  clear hd
  go_wp2_with fail
  refine (below_any c 8 _ (HD1.out.cur.alloc _) (by decide) (by decide)).mono ?_
  rintro r w2 ⟨⟨z, rfl, hz0', hz1'⟩, hc2, hk2⟩
  have HX : Hid (XSt w c w1.heap.size f w2 (.slice (some ⟨M, 0, none⟩) rs.length cap) M cap rs) := by
    have h0 := HL.out; have h1 := HR1.out.lt
    have h2 := hk2.size
    simp at h2
    exact ⟨hc2, ((((Kept.refl c w).alloc _).trans HD1.out.kept).alloc _).trans hk2, h0, ⟨h1, by omega⟩, blk_kept (HR1.out.alloc _) hk2 (by omega), blk_kept (Blk.new w1 _ _) hk2 (by omega), ab_kept ((HD1.out.ab.grow (Go.Joins.below_alloc1 w1 _)).down (by simp)) hk2 (by omega), HD1.out.fine⟩
  clear hc2 hk2 HD1 HR1
  generalize w1.heap.size = X at HX ⊢
  by_cases e0 : z = 0
  · subst e0
    go_wp2_with fail
    refine (below_any c 33 _ HX.out.cur (by decide) (by decide)).mono ?_
    rintro r w3 ⟨⟨y, rfl, hy0, hy1⟩, hc3, hk3⟩
    clear HFB
    have HFB : Hid (I64 y) := ⟨by omega, by omega⟩
    clear hy0 hy1
    have HX3 : Hid (XSt w c X f w3 (.slice (some ⟨M, 0, none⟩) rs.length cap) M cap rs) := HX.out.keep hc3 hk3
    have q0 : w3.cell? ⟨X, 0, none⟩ = some (.int .i64 f) := HX3.out.bX.cell 0
    have g0 := HX3.out.bX.frozen 0
    clear hc3 hk3
    go_upto_region 11 with fail
    have HX4 : Hid (XSt w c X y (w3.setCell ⟨X, 0, none⟩ (.int .i64 y)) (.slice (some ⟨M, 0, none⟩) rs.length cap) M cap rs) := HX3.out.setF y
    clear q0 g0
    generalize w3.setCell ⟨X, 0, none⟩ (.int .i64 y) = W3 at *
    have r0 : W3.cell? ⟨w.heap.size, 0, none⟩ = some (.int .i64 0) := HX4.out.bR.cell 0
    have r1 : W3.cell? ⟨w.heap.size, 1, none⟩ = some (.slice none 0 0) := HX4.out.bR.cell 1
    have f0 := HX4.out.bR.frozen 0
    have f1 := HX4.out.bR.frozen 1
    have x0 : W3.cell? ⟨X, 0, none⟩ = some (.int .i64 y) := HX4.out.bX.cell 0
    have x1 : W3.cell? ⟨X, 1, none⟩ = some (.slice (some ⟨M, 0, none⟩) rs.length cap) := HX4.out.bX.cell 1
    go_wp2
    have hs : Blk ((W3.setCell ⟨w.heap.size, 0, none⟩ (.int .i64 y)).setCell ⟨w.heap.size, 1, none⟩ (.slice (some ⟨M, 0, none⟩) rs.length cap)) w.heap.size #[.int .i64 y, .slice (some ⟨M, 0, none⟩) rs.length cap] 26 := (HX4.out.bR.set 0 _).set 1 _
    have s0 := hs.cell 0
    have s1 := hs.cell 1
    refine bodyPost_ret (v := .agg #[.int .i64 y, .slice (some ⟨M, 0, none⟩) rs.length cap]) (by simp [results, Try.results42, go_sem, s0, s1]) rfl ?_
    exact ⟨y, M, cap, rs, rfl, HX4.out.fin _ _, by omega, HFB.out⟩
  have d0' : (z == 0) = false := by simpa using e0
  by_cases e1 : z = 1
  · subst e1
    have HC : Hid (Calls Try.prog 87 #[.pointer (some ⟨c, 0, none⟩)] w2.drew fun r w' => ∃ y : ARow, r = .returned (.agg #[.slice (some ⟨y.1, 0, none⟩) y.2.2.l.length y.2.1, .int .i64 y.2.2.s, .int .i64 y.2.2.e, .string y.2.2.n]) ∧ XSt w c X f w' (.slice (some ⟨M, 0, none⟩) rs.length cap) M cap rs ∧ OwnA (w.heap.size + 1) w' y ∧ w2.heap.size ≤ y.1 ∧ Fine y.2.2) := (l4Any_any c w2.drew (Cur.drewN HX.out.cur 1)).mono fun r w' ⟨g, cp, p, s, e, n, hr, hst, hp, hs, he, hn⟩ => ⟨(g, cp, ⟨p, s, e, n⟩), hr, HX.out.keep hst.cur (kept_drew hst.kept), (own_lst hst hp).down (by have := HX.out.ord; show _ ≤ w2.drew.heap.size; simp; omega), hst.blk.1, fine_of hp hst.fit hs he hn⟩
    go_upto_region 6 with fail
    refine wp_region_held_drew (S := fun w' => True) (by kernel_rfl) trivial (fun hHeld => ?_)
    refine wpAnyH_take (i := 0) (oi := { dst := some 15, op := Op.fieldAddr 26 (Operand.tmp 3) 1, type := 0, pos := "l06_chain.go:79", after := #[], guard := none }) (v := ?vd11) rfl (by kernel_rfl) (by kernel_rfl) (by kernel_rfl) (fun _ _ _ h => h) (Or.inl ⟨by rfl, ?hyd11⟩) hHeld ?_
    case hyd11 => (intro w hSw; (try dsimp only at hSw); go_simp <;> with_reducible rfl)
    try simp only [Act.put, List.setIfInBounds_toArray, List.set_cons_zero, List.set_cons_succ]
    refine wpAnyH_take (i := 2) (oi := { dst := some 17, op := Op.move (Operand.tmp 0), type := 75, pos := "l06_chain.go:79", after := #[], guard := none }) (v := ?vd12) rfl (by kernel_rfl) (by kernel_rfl) (by kernel_rfl) (fun _ _ _ h => h) (Or.inl ⟨by rfl, ?hyd12⟩) hHeld ?_
    case hyd12 => (intro w hSw; (try dsimp only at hSw); go_simp <;> with_reducible rfl)
    try simp only [Act.put, List.setIfInBounds_toArray, List.set_cons_zero, List.set_cons_succ]
    refine wpAnyH_ready (rs := [1, 3]) (by kernel_rfl) (by simp) ?_
    refine AllReadyH.cons (o := { dst := some 16, op := Op.load 24 (Operand.tmp 15), type := 24, pos := "l06_chain.go:79", after := #[{ on := 0, ground := Ground.data }], guard := none }) rfl (fun K hK => ?_) ?_
    ·
      have cD : w2.drew.cell? ⟨X, 1, none⟩ = some (.slice (some ⟨M, 0, none⟩) rs.length cap) := (HX.out.bX.drew).cell 1
      go_simp
      clear cD
      clear hHeld
      refine hK.out _ _ trivial (fun hHeld => ?_)
      clear hK K
      try simp only [Act.put, List.setIfInBounds_toArray, List.set_cons_zero, List.set_cons_succ]
      
      refine wpAnyH_ready (rs := [3]) (by kernel_rfl) (by simp) ?_
      refine AllReadyH.cons (o := { dst := some 18, op := Op.call { callee := Callee.value (Operand.func 87), args := #[Operand.tmp 17], argTypes := #[75] }, type := 29, pos := "l06_chain.go:79", after := #[{ on := 2, ground := Ground.data }], guard := none }) rfl (fun K hK => ?_) AllReadyH.nil
      go_simp
      refine HC.out.mono ?_
      rintro r wyc ⟨y, rfl, hx, hy, hyl, hyf⟩
      have HXc : Hid (XSt w c X f wyc (.slice (some ⟨M, 0, none⟩) rs.length cap) M cap rs) := hx
      have HY : Hid (OwnA (w.heap.size + 1) wyc y ∧ w2.heap.size ≤ y.1 ∧ Fine y.2.2) := ⟨hy, hyl, hyf⟩
      clear hx hy hyl hyf
      clear hHeld
      refine hK.out _ _ trivial (fun hHeld => ?_)
      clear hK K
      try simp only [Act.put, List.setIfInBounds_toArray, List.set_cons_zero, List.set_cons_succ]
      
      refine wpAnyH_ready (rs := [4]) (by kernel_rfl) (by simp) ?_
      refine AllReadyH.cons (o := { dst := some 19, op := Op.buildSlice 24 1 #[(0, Operand.tmp 18)], type := 24, pos := "l06_chain.go:79", after := #[{ on := 3, ground := Ground.data }], guard := none }) rfl (fun K hK => ?_) AllReadyH.nil
      go_simp
      clear hHeld
      refine hK.out _ _ trivial (fun hHeld => ?_)
      clear hK K
      try simp only [Act.put, List.setIfInBounds_toArray, List.set_cons_zero, List.set_cons_succ]
      
      refine wpAnyH_ready (rs := [5]) (by kernel_rfl) (by simp) ?_
      refine AllReadyH.cons (o := { dst := some 20, op := Op.call { callee := Callee.builtin Builtin.append, args := #[Operand.tmp 16, Operand.tmp 19], argTypes := #[24, 24] }, type := 24, pos := "l06_chain.go:79", after := #[{ on := 1, ground := Ground.data }, { on := 4, ground := Ground.data }, { on := 3, ground := Ground.chain }], guard := none }) rfl (fun K hK => ?_) AllReadyH.nil
      have hXd : XSt w c X f (wyc.alloc (.cells #[.slice (some ⟨y.1, 0, none⟩) y.2.2.l.length y.2.1, .int .i64 y.2.2.s, .int .i64 y.2.2.e, .string y.2.2.n] 29)) (.slice (some ⟨M, 0, none⟩) rs.length cap) M cap rs := HXc.out.grow (Go.Joins.below_alloc1 wyc _)
      obtain ⟨xs, hox, hxl, hxs⟩ := hXd.ab.own
      refine step_appB rfl _ _ 24 rfl 29 i0 (.agg #[.slice none 0 0, .int .i64 0, .int .i64 0, .string ByteArray.empty]) 4 56 Try.underlying24 hi hz0 hz1 hz2 rfl (by decide) (w.heap.size + 1) ?k11b (.slice (some ⟨M, 0, none⟩) rs.length cap) rs.length xs rfl hox ⟨wyc.heap.size, 0, none⟩ 1 1 (rowV y) rfl rfl (blk_news (Blk.new _ _ _)) (row_one _) ?k11c ?k11d ?_
      case k11b => have := hXd.ord; omega
      case k11c => unfold maxLen; omega
      case k11d => omega
      intro v' wya hown hg hat
      obtain ⟨M3, c3, e3, hXA⟩ := hXd.app (HY.out.1.grow (Go.Joins.below_alloc1 wyc _)) HY.out.2.2 (fun x hx => by have := (HX.out.ab.rows x hx).lt; have := HY.out.2.1; omega) hxl hxs hown hg
      subst e3
      have HXA : Hid (XSt w c X f wya (.slice (some ⟨M, 0, none⟩) rs.length cap) M3 c3 (rs ++ [y])) := hXA
      clear hown hg hat hXA hXd hox hxl hxs
      clear hHeld
      refine hK.out _ _ trivial (fun hHeld => ?_)
      clear hK K
      try simp only [Act.put, List.setIfInBounds_toArray, List.set_cons_zero, List.set_cons_succ]
      
      refine wpAnyH_take (i := 6) (oi := { dst := some 21, op := Op.fieldAddr 26 (Operand.tmp 3) 1, type := 0, pos := "l06_chain.go:79", after := #[{ on := 0, ground := Ground.phase }, { on := 1, ground := Ground.phase }, { on := 2, ground := Ground.phase }, { on := 3, ground := Ground.phase }, { on := 4, ground := Ground.phase }, { on := 5, ground := Ground.phase }], guard := none }) (v := ?vd17) rfl (by kernel_rfl) (by kernel_rfl) (by kernel_rfl) (fun _ _ _ h => h) (Or.inl ⟨by rfl, ?hyd17⟩) hHeld ?_
      case hyd17 => (intro w hSw; (try dsimp only at hSw); go_simp <;> with_reducible rfl)
      try simp only [Act.put, List.setIfInBounds_toArray, List.set_cons_zero, List.set_cons_succ]
      refine wpAnyH_ready (rs := [7]) (by kernel_rfl) (by simp) ?_
      refine AllReadyH.cons (o := { dst := none, op := Op.store 24 (Operand.tmp 21) (Operand.tmp 20), type := 0, pos := "l06_chain.go:79", after := #[{ on := 6, ground := Ground.data }, { on := 5, ground := Ground.data }, { on := 5, ground := Ground.chain }, { on := 0, ground := Ground.phase }, { on := 1, ground := Ground.phase }, { on := 2, ground := Ground.phase }, { on := 3, ground := Ground.phase }, { on := 4, ground := Ground.phase }, { on := 5, ground := Ground.phase }], guard := none }) rfl (fun K hK => ?_) AllReadyH.nil
      have cD : wya.cell? ⟨X, 1, none⟩ = some (.slice (some ⟨M, 0, none⟩) rs.length cap) := HXA.out.bX.cell 1
      have fD := HXA.out.bX.frozen 1
      go_simp
      clear cD fD
      clear hHeld
      refine hK.out _ _ trivial (fun hHeld => ?_)
      clear hK K
      try simp only [Act.put, List.setIfInBounds_toArray, List.set_cons_zero, List.set_cons_succ]
      
      refine wpAnyH_done (by kernel_rfl) ?_ _
      have HXZ : Hid (XSt w c X f (wya.setCell ⟨X, 1, none⟩ (.slice (some ⟨M3, 0, none⟩) (rs.length + 1) c3)) (.slice (some ⟨M3, 0, none⟩) (rs.length + 1) c3) M3 c3 (rs ++ [y])) := HXA.out.setL _
      clear hHeld HXA HXc HY
      generalize wya.setCell ⟨X, 1, none⟩ (.slice (some ⟨M3, 0, none⟩) (rs.length + 1) c3) = W3 at *
      have r0 : W3.cell? ⟨w.heap.size, 0, none⟩ = some (.int .i64 0) := HXZ.out.bR.cell 0
      have r1 : W3.cell? ⟨w.heap.size, 1, none⟩ = some (.slice none 0 0) := HXZ.out.bR.cell 1
      have f0 := HXZ.out.bR.frozen 0
      have f1 := HXZ.out.bR.frozen 1
      have x0 : W3.cell? ⟨X, 0, none⟩ = some (.int .i64 f) := HXZ.out.bX.cell 0
      have x1 : W3.cell? ⟨X, 1, none⟩ = some (.slice (some ⟨M3, 0, none⟩) (rs.length + 1) c3) := HXZ.out.bX.cell 1
      go_wp2
      have hs : Blk ((W3.setCell ⟨w.heap.size, 0, none⟩ (.int .i64 f)).setCell ⟨w.heap.size, 1, none⟩ (.slice (some ⟨M3, 0, none⟩) (rs.length + 1) c3)) w.heap.size #[.int .i64 f, .slice (some ⟨M3, 0, none⟩) (rs.length + 1) c3] 26 := (HXZ.out.bR.set 0 _).set 1 _
      have s0 := hs.cell 0
      have s1 := hs.cell 1
      refine bodyPost_ret (v := .agg #[.int .i64 f, .slice (some ⟨M3, 0, none⟩) (rs.length + 1) c3]) (by simp [results, Try.results42, go_sem, s0, s1]) rfl ?_
      exact ⟨f, M3, c3, rs ++ [y], retA (by simp), HXZ.out.fin _ _, by simp; omega, HFB.out⟩
    refine AllReadyH.cons (o := { dst := some 18, op := Op.call { callee := Callee.value (Operand.func 87), args := #[Operand.tmp 17], argTypes := #[75] }, type := 29, pos := "l06_chain.go:79", after := #[{ on := 2, ground := Ground.data }], guard := none }) rfl (fun K hK => ?_) AllReadyH.nil
    go_simp
    refine HC.out.mono ?_
    rintro r wyc ⟨y, rfl, hx, hy, hyl, hyf⟩
    have HXc : Hid (XSt w c X f wyc (.slice (some ⟨M, 0, none⟩) rs.length cap) M cap rs) := hx
    have HY : Hid (OwnA (w.heap.size + 1) wyc y ∧ w2.heap.size ≤ y.1 ∧ Fine y.2.2) := ⟨hy, hyl, hyf⟩
    clear hx hy hyl hyf
    clear hHeld
    refine hK.out _ _ trivial (fun hHeld => ?_)
    clear hK K
    try simp only [Act.put, List.setIfInBounds_toArray, List.set_cons_zero, List.set_cons_succ]
    
    refine wpAnyH_ready (rs := [1, 4]) (by kernel_rfl) (by simp) ?_
    refine AllReadyH.cons (o := { dst := some 16, op := Op.load 24 (Operand.tmp 15), type := 24, pos := "l06_chain.go:79", after := #[{ on := 0, ground := Ground.data }], guard := none }) rfl (fun K hK => ?_) ?_
    ·
      have cD : wyc.cell? ⟨X, 1, none⟩ = some (.slice (some ⟨M, 0, none⟩) rs.length cap) := (HXc.out.bX).cell 1
      go_simp
      clear cD
      clear hHeld
      refine hK.out _ _ trivial (fun hHeld => ?_)
      clear hK K
      try simp only [Act.put, List.setIfInBounds_toArray, List.set_cons_zero, List.set_cons_succ]
      
      refine wpAnyH_ready (rs := [4]) (by kernel_rfl) (by simp) ?_
      refine AllReadyH.cons (o := { dst := some 19, op := Op.buildSlice 24 1 #[(0, Operand.tmp 18)], type := 24, pos := "l06_chain.go:79", after := #[{ on := 3, ground := Ground.data }], guard := none }) rfl (fun K hK => ?_) AllReadyH.nil
      go_simp
      clear hHeld
      refine hK.out _ _ trivial (fun hHeld => ?_)
      clear hK K
      try simp only [Act.put, List.setIfInBounds_toArray, List.set_cons_zero, List.set_cons_succ]
      
      refine wpAnyH_ready (rs := [5]) (by kernel_rfl) (by simp) ?_
      refine AllReadyH.cons (o := { dst := some 20, op := Op.call { callee := Callee.builtin Builtin.append, args := #[Operand.tmp 16, Operand.tmp 19], argTypes := #[24, 24] }, type := 24, pos := "l06_chain.go:79", after := #[{ on := 1, ground := Ground.data }, { on := 4, ground := Ground.data }, { on := 3, ground := Ground.chain }], guard := none }) rfl (fun K hK => ?_) AllReadyH.nil
      have hXd : XSt w c X f (wyc.alloc (.cells #[.slice (some ⟨y.1, 0, none⟩) y.2.2.l.length y.2.1, .int .i64 y.2.2.s, .int .i64 y.2.2.e, .string y.2.2.n] 29)) (.slice (some ⟨M, 0, none⟩) rs.length cap) M cap rs := HXc.out.grow (Go.Joins.below_alloc1 wyc _)
      obtain ⟨xs, hox, hxl, hxs⟩ := hXd.ab.own
      refine step_appB rfl _ _ 24 rfl 29 i0 (.agg #[.slice none 0 0, .int .i64 0, .int .i64 0, .string ByteArray.empty]) 4 56 Try.underlying24 hi hz0 hz1 hz2 rfl (by decide) (w.heap.size + 1) ?k12b (.slice (some ⟨M, 0, none⟩) rs.length cap) rs.length xs rfl hox ⟨wyc.heap.size, 0, none⟩ 1 1 (rowV y) rfl rfl (blk_news (Blk.new _ _ _)) (row_one _) ?k12c ?k12d ?_
      case k12b => have := hXd.ord; omega
      case k12c => unfold maxLen; omega
      case k12d => omega
      intro v' wya hown hg hat
      obtain ⟨M3, c3, e3, hXA⟩ := hXd.app (HY.out.1.grow (Go.Joins.below_alloc1 wyc _)) HY.out.2.2 (fun x hx => by have := (HX.out.ab.rows x hx).lt; have := HY.out.2.1; omega) hxl hxs hown hg
      subst e3
      have HXA : Hid (XSt w c X f wya (.slice (some ⟨M, 0, none⟩) rs.length cap) M3 c3 (rs ++ [y])) := hXA
      clear hown hg hat hXA hXd hox hxl hxs
      clear hHeld
      refine hK.out _ _ trivial (fun hHeld => ?_)
      clear hK K
      try simp only [Act.put, List.setIfInBounds_toArray, List.set_cons_zero, List.set_cons_succ]
      
      refine wpAnyH_take (i := 6) (oi := { dst := some 21, op := Op.fieldAddr 26 (Operand.tmp 3) 1, type := 0, pos := "l06_chain.go:79", after := #[{ on := 0, ground := Ground.phase }, { on := 1, ground := Ground.phase }, { on := 2, ground := Ground.phase }, { on := 3, ground := Ground.phase }, { on := 4, ground := Ground.phase }, { on := 5, ground := Ground.phase }], guard := none }) (v := ?vd113) rfl (by kernel_rfl) (by kernel_rfl) (by kernel_rfl) (fun _ _ _ h => h) (Or.inl ⟨by rfl, ?hyd113⟩) hHeld ?_
      case hyd113 => (intro w hSw; (try dsimp only at hSw); go_simp <;> with_reducible rfl)
      try simp only [Act.put, List.setIfInBounds_toArray, List.set_cons_zero, List.set_cons_succ]
      refine wpAnyH_ready (rs := [7]) (by kernel_rfl) (by simp) ?_
      refine AllReadyH.cons (o := { dst := none, op := Op.store 24 (Operand.tmp 21) (Operand.tmp 20), type := 0, pos := "l06_chain.go:79", after := #[{ on := 6, ground := Ground.data }, { on := 5, ground := Ground.data }, { on := 5, ground := Ground.chain }, { on := 0, ground := Ground.phase }, { on := 1, ground := Ground.phase }, { on := 2, ground := Ground.phase }, { on := 3, ground := Ground.phase }, { on := 4, ground := Ground.phase }, { on := 5, ground := Ground.phase }], guard := none }) rfl (fun K hK => ?_) AllReadyH.nil
      have cD : wya.cell? ⟨X, 1, none⟩ = some (.slice (some ⟨M, 0, none⟩) rs.length cap) := HXA.out.bX.cell 1
      have fD := HXA.out.bX.frozen 1
      go_simp
      clear cD fD
      clear hHeld
      refine hK.out _ _ trivial (fun hHeld => ?_)
      clear hK K
      try simp only [Act.put, List.setIfInBounds_toArray, List.set_cons_zero, List.set_cons_succ]
      
      refine wpAnyH_done (by kernel_rfl) ?_ _
      have HXZ : Hid (XSt w c X f (wya.setCell ⟨X, 1, none⟩ (.slice (some ⟨M3, 0, none⟩) (rs.length + 1) c3)) (.slice (some ⟨M3, 0, none⟩) (rs.length + 1) c3) M3 c3 (rs ++ [y])) := HXA.out.setL _
      clear hHeld HXA HXc HY
      generalize wya.setCell ⟨X, 1, none⟩ (.slice (some ⟨M3, 0, none⟩) (rs.length + 1) c3) = W3 at *
      have r0 : W3.cell? ⟨w.heap.size, 0, none⟩ = some (.int .i64 0) := HXZ.out.bR.cell 0
      have r1 : W3.cell? ⟨w.heap.size, 1, none⟩ = some (.slice none 0 0) := HXZ.out.bR.cell 1
      have f0 := HXZ.out.bR.frozen 0
      have f1 := HXZ.out.bR.frozen 1
      have x0 : W3.cell? ⟨X, 0, none⟩ = some (.int .i64 f) := HXZ.out.bX.cell 0
      have x1 : W3.cell? ⟨X, 1, none⟩ = some (.slice (some ⟨M3, 0, none⟩) (rs.length + 1) c3) := HXZ.out.bX.cell 1
      go_wp2
      have hs : Blk ((W3.setCell ⟨w.heap.size, 0, none⟩ (.int .i64 f)).setCell ⟨w.heap.size, 1, none⟩ (.slice (some ⟨M3, 0, none⟩) (rs.length + 1) c3)) w.heap.size #[.int .i64 f, .slice (some ⟨M3, 0, none⟩) (rs.length + 1) c3] 26 := (HXZ.out.bR.set 0 _).set 1 _
      have s0 := hs.cell 0
      have s1 := hs.cell 1
      refine bodyPost_ret (v := .agg #[.int .i64 f, .slice (some ⟨M3, 0, none⟩) (rs.length + 1) c3]) (by simp [results, Try.results42, go_sem, s0, s1]) rfl ?_
      exact ⟨f, M3, c3, rs ++ [y], retA (by simp), HXZ.out.fin _ _, by simp; omega, HFB.out⟩
    refine AllReadyH.cons (o := { dst := some 19, op := Op.buildSlice 24 1 #[(0, Operand.tmp 18)], type := 24, pos := "l06_chain.go:79", after := #[{ on := 3, ground := Ground.data }], guard := none }) rfl (fun K hK => ?_) AllReadyH.nil
    go_simp
    clear hHeld
    refine hK.out _ _ trivial (fun hHeld => ?_)
    clear hK K
    try simp only [Act.put, List.setIfInBounds_toArray, List.set_cons_zero, List.set_cons_succ]
    
    refine wpAnyH_ready (rs := [1]) (by kernel_rfl) (by simp) ?_
    refine AllReadyH.cons (o := { dst := some 16, op := Op.load 24 (Operand.tmp 15), type := 24, pos := "l06_chain.go:79", after := #[{ on := 0, ground := Ground.data }], guard := none }) rfl (fun K hK => ?_) AllReadyH.nil
    have cD : (wyc.alloc (.cells #[.slice (some ⟨y.1, 0, none⟩) y.2.2.l.length y.2.1, .int .i64 y.2.2.s, .int .i64 y.2.2.e, .string y.2.2.n] 29)).cell? ⟨X, 1, none⟩ = some (.slice (some ⟨M, 0, none⟩) rs.length cap) := ((HXc.out.bX.alloc _)).cell 1
    go_simp
    clear cD
    clear hHeld
    refine hK.out _ _ trivial (fun hHeld => ?_)
    clear hK K
    try simp only [Act.put, List.setIfInBounds_toArray, List.set_cons_zero, List.set_cons_succ]
    
    refine wpAnyH_ready (rs := [5]) (by kernel_rfl) (by simp) ?_
    refine AllReadyH.cons (o := { dst := some 20, op := Op.call { callee := Callee.builtin Builtin.append, args := #[Operand.tmp 16, Operand.tmp 19], argTypes := #[24, 24] }, type := 24, pos := "l06_chain.go:79", after := #[{ on := 1, ground := Ground.data }, { on := 4, ground := Ground.data }, { on := 3, ground := Ground.chain }], guard := none }) rfl (fun K hK => ?_) AllReadyH.nil
    have hXd : XSt w c X f (wyc.alloc (.cells #[.slice (some ⟨y.1, 0, none⟩) y.2.2.l.length y.2.1, .int .i64 y.2.2.s, .int .i64 y.2.2.e, .string y.2.2.n] 29)) (.slice (some ⟨M, 0, none⟩) rs.length cap) M cap rs := HXc.out.grow (Go.Joins.below_alloc1 wyc _)
    obtain ⟨xs, hox, hxl, hxs⟩ := hXd.ab.own
    refine step_appB rfl _ _ 24 rfl 29 i0 (.agg #[.slice none 0 0, .int .i64 0, .int .i64 0, .string ByteArray.empty]) 4 56 Try.underlying24 hi hz0 hz1 hz2 rfl (by decide) (w.heap.size + 1) ?k13b (.slice (some ⟨M, 0, none⟩) rs.length cap) rs.length xs rfl hox ⟨wyc.heap.size, 0, none⟩ 1 1 (rowV y) rfl rfl (blk_news (Blk.new _ _ _)) (row_one _) ?k13c ?k13d ?_
    case k13b => have := hXd.ord; omega
    case k13c => unfold maxLen; omega
    case k13d => omega
    intro v' wya hown hg hat
    obtain ⟨M3, c3, e3, hXA⟩ := hXd.app (HY.out.1.grow (Go.Joins.below_alloc1 wyc _)) HY.out.2.2 (fun x hx => by have := (HX.out.ab.rows x hx).lt; have := HY.out.2.1; omega) hxl hxs hown hg
    subst e3
    have HXA : Hid (XSt w c X f wya (.slice (some ⟨M, 0, none⟩) rs.length cap) M3 c3 (rs ++ [y])) := hXA
    clear hown hg hat hXA hXd hox hxl hxs
    clear hHeld
    refine hK.out _ _ trivial (fun hHeld => ?_)
    clear hK K
    try simp only [Act.put, List.setIfInBounds_toArray, List.set_cons_zero, List.set_cons_succ]
    
    refine wpAnyH_take (i := 6) (oi := { dst := some 21, op := Op.fieldAddr 26 (Operand.tmp 3) 1, type := 0, pos := "l06_chain.go:79", after := #[{ on := 0, ground := Ground.phase }, { on := 1, ground := Ground.phase }, { on := 2, ground := Ground.phase }, { on := 3, ground := Ground.phase }, { on := 4, ground := Ground.phase }, { on := 5, ground := Ground.phase }], guard := none }) (v := ?vd118) rfl (by kernel_rfl) (by kernel_rfl) (by kernel_rfl) (fun _ _ _ h => h) (Or.inl ⟨by rfl, ?hyd118⟩) hHeld ?_
    case hyd118 => (intro w hSw; (try dsimp only at hSw); go_simp <;> with_reducible rfl)
    try simp only [Act.put, List.setIfInBounds_toArray, List.set_cons_zero, List.set_cons_succ]
    refine wpAnyH_ready (rs := [7]) (by kernel_rfl) (by simp) ?_
    refine AllReadyH.cons (o := { dst := none, op := Op.store 24 (Operand.tmp 21) (Operand.tmp 20), type := 0, pos := "l06_chain.go:79", after := #[{ on := 6, ground := Ground.data }, { on := 5, ground := Ground.data }, { on := 5, ground := Ground.chain }, { on := 0, ground := Ground.phase }, { on := 1, ground := Ground.phase }, { on := 2, ground := Ground.phase }, { on := 3, ground := Ground.phase }, { on := 4, ground := Ground.phase }, { on := 5, ground := Ground.phase }], guard := none }) rfl (fun K hK => ?_) AllReadyH.nil
    have cD : wya.cell? ⟨X, 1, none⟩ = some (.slice (some ⟨M, 0, none⟩) rs.length cap) := HXA.out.bX.cell 1
    have fD := HXA.out.bX.frozen 1
    go_simp
    clear cD fD
    clear hHeld
    refine hK.out _ _ trivial (fun hHeld => ?_)
    clear hK K
    try simp only [Act.put, List.setIfInBounds_toArray, List.set_cons_zero, List.set_cons_succ]
    
    refine wpAnyH_done (by kernel_rfl) ?_ _
    have HXZ : Hid (XSt w c X f (wya.setCell ⟨X, 1, none⟩ (.slice (some ⟨M3, 0, none⟩) (rs.length + 1) c3)) (.slice (some ⟨M3, 0, none⟩) (rs.length + 1) c3) M3 c3 (rs ++ [y])) := HXA.out.setL _
    clear hHeld HXA HXc HY
    generalize wya.setCell ⟨X, 1, none⟩ (.slice (some ⟨M3, 0, none⟩) (rs.length + 1) c3) = W3 at *
    have r0 : W3.cell? ⟨w.heap.size, 0, none⟩ = some (.int .i64 0) := HXZ.out.bR.cell 0
    have r1 : W3.cell? ⟨w.heap.size, 1, none⟩ = some (.slice none 0 0) := HXZ.out.bR.cell 1
    have f0 := HXZ.out.bR.frozen 0
    have f1 := HXZ.out.bR.frozen 1
    have x0 : W3.cell? ⟨X, 0, none⟩ = some (.int .i64 f) := HXZ.out.bX.cell 0
    have x1 : W3.cell? ⟨X, 1, none⟩ = some (.slice (some ⟨M3, 0, none⟩) (rs.length + 1) c3) := HXZ.out.bX.cell 1
    go_wp2
    have hs : Blk ((W3.setCell ⟨w.heap.size, 0, none⟩ (.int .i64 f)).setCell ⟨w.heap.size, 1, none⟩ (.slice (some ⟨M3, 0, none⟩) (rs.length + 1) c3)) w.heap.size #[.int .i64 f, .slice (some ⟨M3, 0, none⟩) (rs.length + 1) c3] 26 := (HXZ.out.bR.set 0 _).set 1 _
    have s0 := hs.cell 0
    have s1 := hs.cell 1
    refine bodyPost_ret (v := .agg #[.int .i64 f, .slice (some ⟨M3, 0, none⟩) (rs.length + 1) c3]) (by simp [results, Try.results42, go_sem, s0, s1]) rfl ?_
    exact ⟨f, M3, c3, rs ++ [y], retA (by simp), HXZ.out.fin _ _, by simp; omega, HFB.out⟩
  have d1' : (z == 1) = false := by simpa using e1
  by_cases e2 : z = 2
  · subst e2
    obtain ⟨cu, hcu, hcs, h4⟩ := HX.out.ab.outer
    have h40 := h4 0 hr0
    unfold Four at h40
    have HAl : Hid (w2.drew.cell? ⟨M, 0, none⟩ = some (.slice (some ⟨(nthA rs 0).1, 0, none⟩) (nthA rs 0).2.2.l.length (nthA rs 0).2.1) ∧ w2.drew.cell? ⟨M, 1, none⟩ = some (.int .i64 (nthA rs 0).2.2.s) ∧ w2.drew.cell? ⟨M, 2, none⟩ = some (.int .i64 (nthA rs 0).2.2.e) ∧ w2.drew.cell? ⟨M, 3, none⟩ = some (.string (nthA rs 0).2.2.n)) := ⟨(hcu.drew.cell 0).trans h40.1, (hcu.drew.cell 1).trans h40.2.1, (hcu.drew.cell 2).trans h40.2.2.1, (hcu.drew.cell 3).trans h40.2.2.2⟩
    clear h40 h4 hcs hcu
    have hri : (0 : Int) < (rs.length : Int) := by omega
    have HC : Hid (Calls Try.prog 49 #[.agg #[.slice (some ⟨(nthA rs 0).1, 0, none⟩) (nthA rs 0).2.2.l.length (nthA rs 0).2.1, .int .i64 (nthA rs 0).2.2.s, .int .i64 (nthA rs 0).2.2.e, .string (nthA rs 0).2.2.n]] w2.drew fun r w' => ∃ y : ARow, r = .returned (.agg #[.slice (some ⟨y.1, 0, none⟩) y.2.2.l.length y.2.1, .int .i64 y.2.2.s, .int .i64 y.2.2.e, .string y.2.2.n]) ∧ XSt w c X f w' (.slice (some ⟨M, 0, none⟩) rs.length cap) M cap rs ∧ OwnA (w.heap.size + 1) w' y ∧ w2.heap.size ≤ y.1 ∧ Fine y.2.2) := by
      have ho := HX.out.ab.rows _ (nthA_mem hr0)
      have hfi : Fine (nthA rs 0).2.2 := by rw [← pals_nth hr0]; exact HX.out.fine _ (nthP_mem (by rw [pals_len]; exact hr0))
      exact (copyS_any _ _ _ _ _ _ _ w2.drew (reads_drew ho.reads) ho.2.1).mono fun r w' ⟨⟨Mx, cx, hr, hO⟩, hb⟩ => ⟨(Mx, cx, (nthA rs 0).2.2), hr, HX.out.grow (grow_on ((Below.refl _ _).drew) hb), (own_of_copy hO ho.2.1).down (by have := HX.out.ord; show _ ≤ w2.drew.heap.size; simp; omega), hO.1, hfi⟩
    go_upto_region 8 with fail
    refine wp_region_held_drew (S := fun w' => True) (by kernel_rfl) trivial (fun hHeld => ?_)
    refine wpAnyH_take (i := 0) (oi := { dst := some 24, op := Op.fieldAddr 26 (Operand.tmp 3) 1, type := 0, pos := "l06_chain.go:81", after := #[], guard := none }) (v := ?vd21) rfl (by kernel_rfl) (by kernel_rfl) (by kernel_rfl) (fun _ _ _ h => h) (Or.inl ⟨by rfl, ?hyd21⟩) hHeld ?_
    case hyd21 => (intro w hSw; (try dsimp only at hSw); go_simp <;> with_reducible rfl)
    try simp only [Act.put, List.setIfInBounds_toArray, List.set_cons_zero, List.set_cons_succ]
    refine wpAnyH_take (i := 2) (oi := { dst := some 26, op := Op.fieldAddr 26 (Operand.tmp 3) 1, type := 0, pos := "l06_chain.go:81", after := #[], guard := none }) (v := ?vd22) rfl (by kernel_rfl) (by kernel_rfl) (by kernel_rfl) (fun _ _ _ h => h) (Or.inl ⟨by rfl, ?hyd22⟩) hHeld ?_
    case hyd22 => (intro w hSw; (try dsimp only at hSw); go_simp <;> with_reducible rfl)
    try simp only [Act.put, List.setIfInBounds_toArray, List.set_cons_zero, List.set_cons_succ]
    refine wpAnyH_ready (rs := [1, 3]) (by kernel_rfl) (by simp) ?_
    refine AllReadyH.cons (o := { dst := some 25, op := Op.load 24 (Operand.tmp 24), type := 24, pos := "l06_chain.go:81", after := #[{ on := 0, ground := Ground.data }], guard := none }) rfl (fun K hK => ?_) ?_
    ·
      have cD : w2.drew.cell? ⟨X, 1, none⟩ = some (.slice (some ⟨M, 0, none⟩) rs.length cap) := (HX.out.bX.drew).cell 1
      go_simp
      clear cD
      clear hHeld
      refine hK.out _ _ trivial (fun hHeld => ?_)
      clear hK K
      try simp only [Act.put, List.setIfInBounds_toArray, List.set_cons_zero, List.set_cons_succ]
      
      refine wpAnyH_ready (rs := [3]) (by kernel_rfl) (by simp) ?_
      refine AllReadyH.cons (o := { dst := some 27, op := Op.load 24 (Operand.tmp 26), type := 24, pos := "l06_chain.go:81", after := #[{ on := 2, ground := Ground.data }], guard := none }) rfl (fun K hK => ?_) AllReadyH.nil
      have cD : w2.drew.cell? ⟨X, 1, none⟩ = some (.slice (some ⟨M, 0, none⟩) rs.length cap) := (HX.out.bX.drew).cell 1
      go_simp
      clear cD
      clear hHeld
      refine hK.out _ _ trivial (fun hHeld => ?_)
      clear hK K
      try simp only [Act.put, List.setIfInBounds_toArray, List.set_cons_zero, List.set_cons_succ]
      
      refine wpAnyH_take (i := 4) (oi := { dst := some 28, op := Op.indexAddr 24 (Operand.tmp 27) (Operand.const (Value.int IntKind.i64 0)), type := 0, pos := "l06_chain.go:81", after := #[{ on := 3, ground := Ground.data }], guard := none }) (v := ?vd25) rfl (by kernel_rfl) (by kernel_rfl) (by kernel_rfl) (fun _ _ _ h => h) (Or.inl ⟨by rfl, ?hyd25⟩) hHeld ?_
      case hyd25 => (intro w hSw; (try dsimp only at hSw); go_simp <;> with_reducible rfl)
      try simp only [Act.put, List.setIfInBounds_toArray, List.set_cons_zero, List.set_cons_succ]
      refine wpAnyH_ready (rs := [5]) (by kernel_rfl) (by simp) ?_
      refine AllReadyH.cons (o := { dst := some 29, op := Op.load 29 (Operand.tmp 28), type := 29, pos := "l06_chain.go:81", after := #[{ on := 4, ground := Ground.data }], guard := none }) rfl (fun K hK => ?_) AllReadyH.nil
      have y0 := HAl.out.1
      have y1 := HAl.out.2.1
      have y2 := HAl.out.2.2.1
      have y3 := HAl.out.2.2.2
      go_simp
      clear y0 y1 y2 y3
      clear hHeld
      refine hK.out _ _ trivial (fun hHeld => ?_)
      clear hK K
      try simp only [Act.put, List.setIfInBounds_toArray, List.set_cons_zero, List.set_cons_succ]
      
      refine wpAnyH_ready (rs := [6]) (by kernel_rfl) (by simp) ?_
      refine AllReadyH.cons (o := { dst := some 30, op := Op.call { callee := Callee.value (Operand.func 49), args := #[Operand.tmp 29], argTypes := #[29] }, type := 29, pos := "l06_chain.go:81", after := #[{ on := 5, ground := Ground.data }], guard := none }) rfl (fun K hK => ?_) AllReadyH.nil
      go_simp
      refine HC.out.mono ?_
      rintro r wyc ⟨y, rfl, hx, hy, hyl, hyf⟩
      have HXc : Hid (XSt w c X f wyc (.slice (some ⟨M, 0, none⟩) rs.length cap) M cap rs) := hx
      have HY : Hid (OwnA (w.heap.size + 1) wyc y ∧ w2.heap.size ≤ y.1 ∧ Fine y.2.2) := ⟨hy, hyl, hyf⟩
      clear hx hy hyl hyf
      clear hHeld
      refine hK.out _ _ trivial (fun hHeld => ?_)
      clear hK K
      try simp only [Act.put, List.setIfInBounds_toArray, List.set_cons_zero, List.set_cons_succ]
      
      refine wpAnyH_ready (rs := [7]) (by kernel_rfl) (by simp) ?_
      refine AllReadyH.cons (o := { dst := some 31, op := Op.buildSlice 24 1 #[(0, Operand.tmp 30)], type := 24, pos := "l06_chain.go:81", after := #[{ on := 6, ground := Ground.data }], guard := none }) rfl (fun K hK => ?_) AllReadyH.nil
      go_simp
      clear hHeld
      refine hK.out _ _ trivial (fun hHeld => ?_)
      clear hK K
      try simp only [Act.put, List.setIfInBounds_toArray, List.set_cons_zero, List.set_cons_succ]
      
      refine wpAnyH_ready (rs := [8]) (by kernel_rfl) (by simp) ?_
      refine AllReadyH.cons (o := { dst := some 32, op := Op.call { callee := Callee.builtin Builtin.append, args := #[Operand.tmp 25, Operand.tmp 31], argTypes := #[24, 24] }, type := 24, pos := "l06_chain.go:81", after := #[{ on := 1, ground := Ground.data }, { on := 7, ground := Ground.data }, { on := 6, ground := Ground.chain }], guard := none }) rfl (fun K hK => ?_) AllReadyH.nil
      have hXd : XSt w c X f (wyc.alloc (.cells #[.slice (some ⟨y.1, 0, none⟩) y.2.2.l.length y.2.1, .int .i64 y.2.2.s, .int .i64 y.2.2.e, .string y.2.2.n] 29)) (.slice (some ⟨M, 0, none⟩) rs.length cap) M cap rs := HXc.out.grow (Go.Joins.below_alloc1 wyc _)
      obtain ⟨xs, hox, hxl, hxs⟩ := hXd.ab.own
      refine step_appB rfl _ _ 24 rfl 29 i0 (.agg #[.slice none 0 0, .int .i64 0, .int .i64 0, .string ByteArray.empty]) 4 56 Try.underlying24 hi hz0 hz1 hz2 rfl (by decide) (w.heap.size + 1) ?k21b (.slice (some ⟨M, 0, none⟩) rs.length cap) rs.length xs rfl hox ⟨wyc.heap.size, 0, none⟩ 1 1 (rowV y) rfl rfl (blk_news (Blk.new _ _ _)) (row_one _) ?k21c ?k21d ?_
      case k21b => have := hXd.ord; omega
      case k21c => unfold maxLen; omega
      case k21d => omega
      intro v' wya hown hg hat
      obtain ⟨M3, c3, e3, hXA⟩ := hXd.app (HY.out.1.grow (Go.Joins.below_alloc1 wyc _)) HY.out.2.2 (fun x hx => by have := (HX.out.ab.rows x hx).lt; have := HY.out.2.1; omega) hxl hxs hown hg
      subst e3
      have HXA : Hid (XSt w c X f wya (.slice (some ⟨M, 0, none⟩) rs.length cap) M3 c3 (rs ++ [y])) := hXA
      clear hown hg hat hXA hXd hox hxl hxs
      clear hHeld
      refine hK.out _ _ trivial (fun hHeld => ?_)
      clear hK K
      try simp only [Act.put, List.setIfInBounds_toArray, List.set_cons_zero, List.set_cons_succ]
      
      refine wpAnyH_take (i := 9) (oi := { dst := some 33, op := Op.fieldAddr 26 (Operand.tmp 3) 1, type := 0, pos := "l06_chain.go:81", after := #[{ on := 0, ground := Ground.phase }, { on := 1, ground := Ground.phase }, { on := 2, ground := Ground.phase }, { on := 3, ground := Ground.phase }, { on := 4, ground := Ground.phase }, { on := 5, ground := Ground.phase }, { on := 6, ground := Ground.phase }, { on := 7, ground := Ground.phase }, { on := 8, ground := Ground.phase }], guard := none }) (v := ?vd210) rfl (by kernel_rfl) (by kernel_rfl) (by kernel_rfl) (fun _ _ _ h => h) (Or.inl ⟨by rfl, ?hyd210⟩) hHeld ?_
      case hyd210 => (intro w hSw; (try dsimp only at hSw); go_simp <;> with_reducible rfl)
      try simp only [Act.put, List.setIfInBounds_toArray, List.set_cons_zero, List.set_cons_succ]
      refine wpAnyH_ready (rs := [10]) (by kernel_rfl) (by simp) ?_
      refine AllReadyH.cons (o := { dst := none, op := Op.store 24 (Operand.tmp 33) (Operand.tmp 32), type := 0, pos := "l06_chain.go:81", after := #[{ on := 9, ground := Ground.data }, { on := 8, ground := Ground.data }, { on := 8, ground := Ground.chain }, { on := 0, ground := Ground.phase }, { on := 1, ground := Ground.phase }, { on := 2, ground := Ground.phase }, { on := 3, ground := Ground.phase }, { on := 4, ground := Ground.phase }, { on := 5, ground := Ground.phase }, { on := 6, ground := Ground.phase }, { on := 7, ground := Ground.phase }, { on := 8, ground := Ground.phase }], guard := none }) rfl (fun K hK => ?_) AllReadyH.nil
      have cD : wya.cell? ⟨X, 1, none⟩ = some (.slice (some ⟨M, 0, none⟩) rs.length cap) := HXA.out.bX.cell 1
      have fD := HXA.out.bX.frozen 1
      go_simp
      clear cD fD
      clear hHeld
      refine hK.out _ _ trivial (fun hHeld => ?_)
      clear hK K
      try simp only [Act.put, List.setIfInBounds_toArray, List.set_cons_zero, List.set_cons_succ]
      
      refine wpAnyH_done (by kernel_rfl) ?_ _
      have HXZ : Hid (XSt w c X f (wya.setCell ⟨X, 1, none⟩ (.slice (some ⟨M3, 0, none⟩) (rs.length + 1) c3)) (.slice (some ⟨M3, 0, none⟩) (rs.length + 1) c3) M3 c3 (rs ++ [y])) := HXA.out.setL _
      clear hHeld HXA HXc HY
      generalize wya.setCell ⟨X, 1, none⟩ (.slice (some ⟨M3, 0, none⟩) (rs.length + 1) c3) = W3 at *
      have r0 : W3.cell? ⟨w.heap.size, 0, none⟩ = some (.int .i64 0) := HXZ.out.bR.cell 0
      have r1 : W3.cell? ⟨w.heap.size, 1, none⟩ = some (.slice none 0 0) := HXZ.out.bR.cell 1
      have f0 := HXZ.out.bR.frozen 0
      have f1 := HXZ.out.bR.frozen 1
      have x0 : W3.cell? ⟨X, 0, none⟩ = some (.int .i64 f) := HXZ.out.bX.cell 0
      have x1 : W3.cell? ⟨X, 1, none⟩ = some (.slice (some ⟨M3, 0, none⟩) (rs.length + 1) c3) := HXZ.out.bX.cell 1
      go_wp2
      have hs : Blk ((W3.setCell ⟨w.heap.size, 0, none⟩ (.int .i64 f)).setCell ⟨w.heap.size, 1, none⟩ (.slice (some ⟨M3, 0, none⟩) (rs.length + 1) c3)) w.heap.size #[.int .i64 f, .slice (some ⟨M3, 0, none⟩) (rs.length + 1) c3] 26 := (HXZ.out.bR.set 0 _).set 1 _
      have s0 := hs.cell 0
      have s1 := hs.cell 1
      refine bodyPost_ret (v := .agg #[.int .i64 f, .slice (some ⟨M3, 0, none⟩) (rs.length + 1) c3]) (by simp [results, Try.results42, go_sem, s0, s1]) rfl ?_
      exact ⟨f, M3, c3, rs ++ [y], retA (by simp), HXZ.out.fin _ _, by simp; omega, HFB.out⟩
    refine AllReadyH.cons (o := { dst := some 27, op := Op.load 24 (Operand.tmp 26), type := 24, pos := "l06_chain.go:81", after := #[{ on := 2, ground := Ground.data }], guard := none }) rfl (fun K hK => ?_) AllReadyH.nil
    have cD : w2.drew.cell? ⟨X, 1, none⟩ = some (.slice (some ⟨M, 0, none⟩) rs.length cap) := (HX.out.bX.drew).cell 1
    go_simp
    clear cD
    clear hHeld
    refine hK.out _ _ trivial (fun hHeld => ?_)
    clear hK K
    try simp only [Act.put, List.setIfInBounds_toArray, List.set_cons_zero, List.set_cons_succ]
    
    refine wpAnyH_take (i := 4) (oi := { dst := some 28, op := Op.indexAddr 24 (Operand.tmp 27) (Operand.const (Value.int IntKind.i64 0)), type := 0, pos := "l06_chain.go:81", after := #[{ on := 3, ground := Ground.data }], guard := none }) (v := ?vd213) rfl (by kernel_rfl) (by kernel_rfl) (by kernel_rfl) (fun _ _ _ h => h) (Or.inl ⟨by rfl, ?hyd213⟩) hHeld ?_
    case hyd213 => (intro w hSw; (try dsimp only at hSw); go_simp <;> with_reducible rfl)
    try simp only [Act.put, List.setIfInBounds_toArray, List.set_cons_zero, List.set_cons_succ]
    refine wpAnyH_ready (rs := [1, 5]) (by kernel_rfl) (by simp) ?_
    refine AllReadyH.cons (o := { dst := some 25, op := Op.load 24 (Operand.tmp 24), type := 24, pos := "l06_chain.go:81", after := #[{ on := 0, ground := Ground.data }], guard := none }) rfl (fun K hK => ?_) ?_
    ·
      have cD : w2.drew.cell? ⟨X, 1, none⟩ = some (.slice (some ⟨M, 0, none⟩) rs.length cap) := (HX.out.bX.drew).cell 1
      go_simp
      clear cD
      clear hHeld
      refine hK.out _ _ trivial (fun hHeld => ?_)
      clear hK K
      try simp only [Act.put, List.setIfInBounds_toArray, List.set_cons_zero, List.set_cons_succ]
      
      refine wpAnyH_ready (rs := [5]) (by kernel_rfl) (by simp) ?_
      refine AllReadyH.cons (o := { dst := some 29, op := Op.load 29 (Operand.tmp 28), type := 29, pos := "l06_chain.go:81", after := #[{ on := 4, ground := Ground.data }], guard := none }) rfl (fun K hK => ?_) AllReadyH.nil
      have y0 := HAl.out.1
      have y1 := HAl.out.2.1
      have y2 := HAl.out.2.2.1
      have y3 := HAl.out.2.2.2
      go_simp
      clear y0 y1 y2 y3
      clear hHeld
      refine hK.out _ _ trivial (fun hHeld => ?_)
      clear hK K
      try simp only [Act.put, List.setIfInBounds_toArray, List.set_cons_zero, List.set_cons_succ]
      
      refine wpAnyH_ready (rs := [6]) (by kernel_rfl) (by simp) ?_
      refine AllReadyH.cons (o := { dst := some 30, op := Op.call { callee := Callee.value (Operand.func 49), args := #[Operand.tmp 29], argTypes := #[29] }, type := 29, pos := "l06_chain.go:81", after := #[{ on := 5, ground := Ground.data }], guard := none }) rfl (fun K hK => ?_) AllReadyH.nil
      go_simp
      refine HC.out.mono ?_
      rintro r wyc ⟨y, rfl, hx, hy, hyl, hyf⟩
      have HXc : Hid (XSt w c X f wyc (.slice (some ⟨M, 0, none⟩) rs.length cap) M cap rs) := hx
      have HY : Hid (OwnA (w.heap.size + 1) wyc y ∧ w2.heap.size ≤ y.1 ∧ Fine y.2.2) := ⟨hy, hyl, hyf⟩
      clear hx hy hyl hyf
      clear hHeld
      refine hK.out _ _ trivial (fun hHeld => ?_)
      clear hK K
      try simp only [Act.put, List.setIfInBounds_toArray, List.set_cons_zero, List.set_cons_succ]
      
      refine wpAnyH_ready (rs := [7]) (by kernel_rfl) (by simp) ?_
      refine AllReadyH.cons (o := { dst := some 31, op := Op.buildSlice 24 1 #[(0, Operand.tmp 30)], type := 24, pos := "l06_chain.go:81", after := #[{ on := 6, ground := Ground.data }], guard := none }) rfl (fun K hK => ?_) AllReadyH.nil
      go_simp
      clear hHeld
      refine hK.out _ _ trivial (fun hHeld => ?_)
      clear hK K
      try simp only [Act.put, List.setIfInBounds_toArray, List.set_cons_zero, List.set_cons_succ]
      
      refine wpAnyH_ready (rs := [8]) (by kernel_rfl) (by simp) ?_
      refine AllReadyH.cons (o := { dst := some 32, op := Op.call { callee := Callee.builtin Builtin.append, args := #[Operand.tmp 25, Operand.tmp 31], argTypes := #[24, 24] }, type := 24, pos := "l06_chain.go:81", after := #[{ on := 1, ground := Ground.data }, { on := 7, ground := Ground.data }, { on := 6, ground := Ground.chain }], guard := none }) rfl (fun K hK => ?_) AllReadyH.nil
      have hXd : XSt w c X f (wyc.alloc (.cells #[.slice (some ⟨y.1, 0, none⟩) y.2.2.l.length y.2.1, .int .i64 y.2.2.s, .int .i64 y.2.2.e, .string y.2.2.n] 29)) (.slice (some ⟨M, 0, none⟩) rs.length cap) M cap rs := HXc.out.grow (Go.Joins.below_alloc1 wyc _)
      obtain ⟨xs, hox, hxl, hxs⟩ := hXd.ab.own
      refine step_appB rfl _ _ 24 rfl 29 i0 (.agg #[.slice none 0 0, .int .i64 0, .int .i64 0, .string ByteArray.empty]) 4 56 Try.underlying24 hi hz0 hz1 hz2 rfl (by decide) (w.heap.size + 1) ?k22b (.slice (some ⟨M, 0, none⟩) rs.length cap) rs.length xs rfl hox ⟨wyc.heap.size, 0, none⟩ 1 1 (rowV y) rfl rfl (blk_news (Blk.new _ _ _)) (row_one _) ?k22c ?k22d ?_
      case k22b => have := hXd.ord; omega
      case k22c => unfold maxLen; omega
      case k22d => omega
      intro v' wya hown hg hat
      obtain ⟨M3, c3, e3, hXA⟩ := hXd.app (HY.out.1.grow (Go.Joins.below_alloc1 wyc _)) HY.out.2.2 (fun x hx => by have := (HX.out.ab.rows x hx).lt; have := HY.out.2.1; omega) hxl hxs hown hg
      subst e3
      have HXA : Hid (XSt w c X f wya (.slice (some ⟨M, 0, none⟩) rs.length cap) M3 c3 (rs ++ [y])) := hXA
      clear hown hg hat hXA hXd hox hxl hxs
      clear hHeld
      refine hK.out _ _ trivial (fun hHeld => ?_)
      clear hK K
      try simp only [Act.put, List.setIfInBounds_toArray, List.set_cons_zero, List.set_cons_succ]
      
      refine wpAnyH_take (i := 9) (oi := { dst := some 33, op := Op.fieldAddr 26 (Operand.tmp 3) 1, type := 0, pos := "l06_chain.go:81", after := #[{ on := 0, ground := Ground.phase }, { on := 1, ground := Ground.phase }, { on := 2, ground := Ground.phase }, { on := 3, ground := Ground.phase }, { on := 4, ground := Ground.phase }, { on := 5, ground := Ground.phase }, { on := 6, ground := Ground.phase }, { on := 7, ground := Ground.phase }, { on := 8, ground := Ground.phase }], guard := none }) (v := ?vd219) rfl (by kernel_rfl) (by kernel_rfl) (by kernel_rfl) (fun _ _ _ h => h) (Or.inl ⟨by rfl, ?hyd219⟩) hHeld ?_
      case hyd219 => (intro w hSw; (try dsimp only at hSw); go_simp <;> with_reducible rfl)
      try simp only [Act.put, List.setIfInBounds_toArray, List.set_cons_zero, List.set_cons_succ]
      refine wpAnyH_ready (rs := [10]) (by kernel_rfl) (by simp) ?_
      refine AllReadyH.cons (o := { dst := none, op := Op.store 24 (Operand.tmp 33) (Operand.tmp 32), type := 0, pos := "l06_chain.go:81", after := #[{ on := 9, ground := Ground.data }, { on := 8, ground := Ground.data }, { on := 8, ground := Ground.chain }, { on := 0, ground := Ground.phase }, { on := 1, ground := Ground.phase }, { on := 2, ground := Ground.phase }, { on := 3, ground := Ground.phase }, { on := 4, ground := Ground.phase }, { on := 5, ground := Ground.phase }, { on := 6, ground := Ground.phase }, { on := 7, ground := Ground.phase }, { on := 8, ground := Ground.phase }], guard := none }) rfl (fun K hK => ?_) AllReadyH.nil
      have cD : wya.cell? ⟨X, 1, none⟩ = some (.slice (some ⟨M, 0, none⟩) rs.length cap) := HXA.out.bX.cell 1
      have fD := HXA.out.bX.frozen 1
      go_simp
      clear cD fD
      clear hHeld
      refine hK.out _ _ trivial (fun hHeld => ?_)
      clear hK K
      try simp only [Act.put, List.setIfInBounds_toArray, List.set_cons_zero, List.set_cons_succ]
      
      refine wpAnyH_done (by kernel_rfl) ?_ _
      have HXZ : Hid (XSt w c X f (wya.setCell ⟨X, 1, none⟩ (.slice (some ⟨M3, 0, none⟩) (rs.length + 1) c3)) (.slice (some ⟨M3, 0, none⟩) (rs.length + 1) c3) M3 c3 (rs ++ [y])) := HXA.out.setL _
      clear hHeld HXA HXc HY
      generalize wya.setCell ⟨X, 1, none⟩ (.slice (some ⟨M3, 0, none⟩) (rs.length + 1) c3) = W3 at *
      have r0 : W3.cell? ⟨w.heap.size, 0, none⟩ = some (.int .i64 0) := HXZ.out.bR.cell 0
      have r1 : W3.cell? ⟨w.heap.size, 1, none⟩ = some (.slice none 0 0) := HXZ.out.bR.cell 1
      have f0 := HXZ.out.bR.frozen 0
      have f1 := HXZ.out.bR.frozen 1
      have x0 : W3.cell? ⟨X, 0, none⟩ = some (.int .i64 f) := HXZ.out.bX.cell 0
      have x1 : W3.cell? ⟨X, 1, none⟩ = some (.slice (some ⟨M3, 0, none⟩) (rs.length + 1) c3) := HXZ.out.bX.cell 1
      go_wp2
      have hs : Blk ((W3.setCell ⟨w.heap.size, 0, none⟩ (.int .i64 f)).setCell ⟨w.heap.size, 1, none⟩ (.slice (some ⟨M3, 0, none⟩) (rs.length + 1) c3)) w.heap.size #[.int .i64 f, .slice (some ⟨M3, 0, none⟩) (rs.length + 1) c3] 26 := (HXZ.out.bR.set 0 _).set 1 _
      have s0 := hs.cell 0
      have s1 := hs.cell 1
      refine bodyPost_ret (v := .agg #[.int .i64 f, .slice (some ⟨M3, 0, none⟩) (rs.length + 1) c3]) (by simp [results, Try.results42, go_sem, s0, s1]) rfl ?_
      exact ⟨f, M3, c3, rs ++ [y], retA (by simp), HXZ.out.fin _ _, by simp; omega, HFB.out⟩
    refine AllReadyH.cons (o := { dst := some 29, op := Op.load 29 (Operand.tmp 28), type := 29, pos := "l06_chain.go:81", after := #[{ on := 4, ground := Ground.data }], guard := none }) rfl (fun K hK => ?_) AllReadyH.nil
    have y0 := HAl.out.1
    have y1 := HAl.out.2.1
    have y2 := HAl.out.2.2.1
    have y3 := HAl.out.2.2.2
    go_simp
    clear y0 y1 y2 y3
    clear hHeld
    refine hK.out _ _ trivial (fun hHeld => ?_)
    clear hK K
    try simp only [Act.put, List.setIfInBounds_toArray, List.set_cons_zero, List.set_cons_succ]
    
    refine wpAnyH_ready (rs := [1, 6]) (by kernel_rfl) (by simp) ?_
    refine AllReadyH.cons (o := { dst := some 25, op := Op.load 24 (Operand.tmp 24), type := 24, pos := "l06_chain.go:81", after := #[{ on := 0, ground := Ground.data }], guard := none }) rfl (fun K hK => ?_) ?_
    ·
      have cD : w2.drew.cell? ⟨X, 1, none⟩ = some (.slice (some ⟨M, 0, none⟩) rs.length cap) := (HX.out.bX.drew).cell 1
      go_simp
      clear cD
      clear hHeld
      refine hK.out _ _ trivial (fun hHeld => ?_)
      clear hK K
      try simp only [Act.put, List.setIfInBounds_toArray, List.set_cons_zero, List.set_cons_succ]
      
      refine wpAnyH_ready (rs := [6]) (by kernel_rfl) (by simp) ?_
      refine AllReadyH.cons (o := { dst := some 30, op := Op.call { callee := Callee.value (Operand.func 49), args := #[Operand.tmp 29], argTypes := #[29] }, type := 29, pos := "l06_chain.go:81", after := #[{ on := 5, ground := Ground.data }], guard := none }) rfl (fun K hK => ?_) AllReadyH.nil
      go_simp
      refine HC.out.mono ?_
      rintro r wyc ⟨y, rfl, hx, hy, hyl, hyf⟩
      have HXc : Hid (XSt w c X f wyc (.slice (some ⟨M, 0, none⟩) rs.length cap) M cap rs) := hx
      have HY : Hid (OwnA (w.heap.size + 1) wyc y ∧ w2.heap.size ≤ y.1 ∧ Fine y.2.2) := ⟨hy, hyl, hyf⟩
      clear hx hy hyl hyf
      clear hHeld
      refine hK.out _ _ trivial (fun hHeld => ?_)
      clear hK K
      try simp only [Act.put, List.setIfInBounds_toArray, List.set_cons_zero, List.set_cons_succ]
      
      refine wpAnyH_ready (rs := [7]) (by kernel_rfl) (by simp) ?_
      refine AllReadyH.cons (o := { dst := some 31, op := Op.buildSlice 24 1 #[(0, Operand.tmp 30)], type := 24, pos := "l06_chain.go:81", after := #[{ on := 6, ground := Ground.data }], guard := none }) rfl (fun K hK => ?_) AllReadyH.nil
      go_simp
      clear hHeld
      refine hK.out _ _ trivial (fun hHeld => ?_)
      clear hK K
      try simp only [Act.put, List.setIfInBounds_toArray, List.set_cons_zero, List.set_cons_succ]
      
      refine wpAnyH_ready (rs := [8]) (by kernel_rfl) (by simp) ?_
      refine AllReadyH.cons (o := { dst := some 32, op := Op.call { callee := Callee.builtin Builtin.append, args := #[Operand.tmp 25, Operand.tmp 31], argTypes := #[24, 24] }, type := 24, pos := "l06_chain.go:81", after := #[{ on := 1, ground := Ground.data }, { on := 7, ground := Ground.data }, { on := 6, ground := Ground.chain }], guard := none }) rfl (fun K hK => ?_) AllReadyH.nil
      have hXd : XSt w c X f (wyc.alloc (.cells #[.slice (some ⟨y.1, 0, none⟩) y.2.2.l.length y.2.1, .int .i64 y.2.2.s, .int .i64 y.2.2.e, .string y.2.2.n] 29)) (.slice (some ⟨M, 0, none⟩) rs.length cap) M cap rs := HXc.out.grow (Go.Joins.below_alloc1 wyc _)
      obtain ⟨xs, hox, hxl, hxs⟩ := hXd.ab.own
      refine step_appB rfl _ _ 24 rfl 29 i0 (.agg #[.slice none 0 0, .int .i64 0, .int .i64 0, .string ByteArray.empty]) 4 56 Try.underlying24 hi hz0 hz1 hz2 rfl (by decide) (w.heap.size + 1) ?k23b (.slice (some ⟨M, 0, none⟩) rs.length cap) rs.length xs rfl hox ⟨wyc.heap.size, 0, none⟩ 1 1 (rowV y) rfl rfl (blk_news (Blk.new _ _ _)) (row_one _) ?k23c ?k23d ?_
      case k23b => have := hXd.ord; omega
      case k23c => unfold maxLen; omega
      case k23d => omega
      intro v' wya hown hg hat
      obtain ⟨M3, c3, e3, hXA⟩ := hXd.app (HY.out.1.grow (Go.Joins.below_alloc1 wyc _)) HY.out.2.2 (fun x hx => by have := (HX.out.ab.rows x hx).lt; have := HY.out.2.1; omega) hxl hxs hown hg
      subst e3
      have HXA : Hid (XSt w c X f wya (.slice (some ⟨M, 0, none⟩) rs.length cap) M3 c3 (rs ++ [y])) := hXA
      clear hown hg hat hXA hXd hox hxl hxs
      clear hHeld
      refine hK.out _ _ trivial (fun hHeld => ?_)
      clear hK K
      try simp only [Act.put, List.setIfInBounds_toArray, List.set_cons_zero, List.set_cons_succ]
      
      refine wpAnyH_take (i := 9) (oi := { dst := some 33, op := Op.fieldAddr 26 (Operand.tmp 3) 1, type := 0, pos := "l06_chain.go:81", after := #[{ on := 0, ground := Ground.phase }, { on := 1, ground := Ground.phase }, { on := 2, ground := Ground.phase }, { on := 3, ground := Ground.phase }, { on := 4, ground := Ground.phase }, { on := 5, ground := Ground.phase }, { on := 6, ground := Ground.phase }, { on := 7, ground := Ground.phase }, { on := 8, ground := Ground.phase }], guard := none }) (v := ?vd226) rfl (by kernel_rfl) (by kernel_rfl) (by kernel_rfl) (fun _ _ _ h => h) (Or.inl ⟨by rfl, ?hyd226⟩) hHeld ?_
      case hyd226 => (intro w hSw; (try dsimp only at hSw); go_simp <;> with_reducible rfl)
      try simp only [Act.put, List.setIfInBounds_toArray, List.set_cons_zero, List.set_cons_succ]
      refine wpAnyH_ready (rs := [10]) (by kernel_rfl) (by simp) ?_
      refine AllReadyH.cons (o := { dst := none, op := Op.store 24 (Operand.tmp 33) (Operand.tmp 32), type := 0, pos := "l06_chain.go:81", after := #[{ on := 9, ground := Ground.data }, { on := 8, ground := Ground.data }, { on := 8, ground := Ground.chain }, { on := 0, ground := Ground.phase }, { on := 1, ground := Ground.phase }, { on := 2, ground := Ground.phase }, { on := 3, ground := Ground.phase }, { on := 4, ground := Ground.phase }, { on := 5, ground := Ground.phase }, { on := 6, ground := Ground.phase }, { on := 7, ground := Ground.phase }, { on := 8, ground := Ground.phase }], guard := none }) rfl (fun K hK => ?_) AllReadyH.nil
      have cD : wya.cell? ⟨X, 1, none⟩ = some (.slice (some ⟨M, 0, none⟩) rs.length cap) := HXA.out.bX.cell 1
      have fD := HXA.out.bX.frozen 1
      go_simp
      clear cD fD
      clear hHeld
      refine hK.out _ _ trivial (fun hHeld => ?_)
      clear hK K
      try simp only [Act.put, List.setIfInBounds_toArray, List.set_cons_zero, List.set_cons_succ]
      
      refine wpAnyH_done (by kernel_rfl) ?_ _
      have HXZ : Hid (XSt w c X f (wya.setCell ⟨X, 1, none⟩ (.slice (some ⟨M3, 0, none⟩) (rs.length + 1) c3)) (.slice (some ⟨M3, 0, none⟩) (rs.length + 1) c3) M3 c3 (rs ++ [y])) := HXA.out.setL _
      clear hHeld HXA HXc HY
      generalize wya.setCell ⟨X, 1, none⟩ (.slice (some ⟨M3, 0, none⟩) (rs.length + 1) c3) = W3 at *
      have r0 : W3.cell? ⟨w.heap.size, 0, none⟩ = some (.int .i64 0) := HXZ.out.bR.cell 0
      have r1 : W3.cell? ⟨w.heap.size, 1, none⟩ = some (.slice none 0 0) := HXZ.out.bR.cell 1
      have f0 := HXZ.out.bR.frozen 0
      have f1 := HXZ.out.bR.frozen 1
      have x0 : W3.cell? ⟨X, 0, none⟩ = some (.int .i64 f) := HXZ.out.bX.cell 0
      have x1 : W3.cell? ⟨X, 1, none⟩ = some (.slice (some ⟨M3, 0, none⟩) (rs.length + 1) c3) := HXZ.out.bX.cell 1
      go_wp2
      have hs : Blk ((W3.setCell ⟨w.heap.size, 0, none⟩ (.int .i64 f)).setCell ⟨w.heap.size, 1, none⟩ (.slice (some ⟨M3, 0, none⟩) (rs.length + 1) c3)) w.heap.size #[.int .i64 f, .slice (some ⟨M3, 0, none⟩) (rs.length + 1) c3] 26 := (HXZ.out.bR.set 0 _).set 1 _
      have s0 := hs.cell 0
      have s1 := hs.cell 1
      refine bodyPost_ret (v := .agg #[.int .i64 f, .slice (some ⟨M3, 0, none⟩) (rs.length + 1) c3]) (by simp [results, Try.results42, go_sem, s0, s1]) rfl ?_
      exact ⟨f, M3, c3, rs ++ [y], retA (by simp), HXZ.out.fin _ _, by simp; omega, HFB.out⟩
    refine AllReadyH.cons (o := { dst := some 30, op := Op.call { callee := Callee.value (Operand.func 49), args := #[Operand.tmp 29], argTypes := #[29] }, type := 29, pos := "l06_chain.go:81", after := #[{ on := 5, ground := Ground.data }], guard := none }) rfl (fun K hK => ?_) AllReadyH.nil
    go_simp
    refine HC.out.mono ?_
    rintro r wyc ⟨y, rfl, hx, hy, hyl, hyf⟩
    have HXc : Hid (XSt w c X f wyc (.slice (some ⟨M, 0, none⟩) rs.length cap) M cap rs) := hx
    have HY : Hid (OwnA (w.heap.size + 1) wyc y ∧ w2.heap.size ≤ y.1 ∧ Fine y.2.2) := ⟨hy, hyl, hyf⟩
    clear hx hy hyl hyf
    clear hHeld
    refine hK.out _ _ trivial (fun hHeld => ?_)
    clear hK K
    try simp only [Act.put, List.setIfInBounds_toArray, List.set_cons_zero, List.set_cons_succ]
    
    refine wpAnyH_ready (rs := [1, 7]) (by kernel_rfl) (by simp) ?_
    refine AllReadyH.cons (o := { dst := some 25, op := Op.load 24 (Operand.tmp 24), type := 24, pos := "l06_chain.go:81", after := #[{ on := 0, ground := Ground.data }], guard := none }) rfl (fun K hK => ?_) ?_
    ·
      have cD : wyc.cell? ⟨X, 1, none⟩ = some (.slice (some ⟨M, 0, none⟩) rs.length cap) := (HXc.out.bX).cell 1
      go_simp
      clear cD
      clear hHeld
      refine hK.out _ _ trivial (fun hHeld => ?_)
      clear hK K
      try simp only [Act.put, List.setIfInBounds_toArray, List.set_cons_zero, List.set_cons_succ]
      
      refine wpAnyH_ready (rs := [7]) (by kernel_rfl) (by simp) ?_
      refine AllReadyH.cons (o := { dst := some 31, op := Op.buildSlice 24 1 #[(0, Operand.tmp 30)], type := 24, pos := "l06_chain.go:81", after := #[{ on := 6, ground := Ground.data }], guard := none }) rfl (fun K hK => ?_) AllReadyH.nil
      go_simp
      clear hHeld
      refine hK.out _ _ trivial (fun hHeld => ?_)
      clear hK K
      try simp only [Act.put, List.setIfInBounds_toArray, List.set_cons_zero, List.set_cons_succ]
      
      refine wpAnyH_ready (rs := [8]) (by kernel_rfl) (by simp) ?_
      refine AllReadyH.cons (o := { dst := some 32, op := Op.call { callee := Callee.builtin Builtin.append, args := #[Operand.tmp 25, Operand.tmp 31], argTypes := #[24, 24] }, type := 24, pos := "l06_chain.go:81", after := #[{ on := 1, ground := Ground.data }, { on := 7, ground := Ground.data }, { on := 6, ground := Ground.chain }], guard := none }) rfl (fun K hK => ?_) AllReadyH.nil
      have hXd : XSt w c X f (wyc.alloc (.cells #[.slice (some ⟨y.1, 0, none⟩) y.2.2.l.length y.2.1, .int .i64 y.2.2.s, .int .i64 y.2.2.e, .string y.2.2.n] 29)) (.slice (some ⟨M, 0, none⟩) rs.length cap) M cap rs := HXc.out.grow (Go.Joins.below_alloc1 wyc _)
      obtain ⟨xs, hox, hxl, hxs⟩ := hXd.ab.own
      refine step_appB rfl _ _ 24 rfl 29 i0 (.agg #[.slice none 0 0, .int .i64 0, .int .i64 0, .string ByteArray.empty]) 4 56 Try.underlying24 hi hz0 hz1 hz2 rfl (by decide) (w.heap.size + 1) ?k24b (.slice (some ⟨M, 0, none⟩) rs.length cap) rs.length xs rfl hox ⟨wyc.heap.size, 0, none⟩ 1 1 (rowV y) rfl rfl (blk_news (Blk.new _ _ _)) (row_one _) ?k24c ?k24d ?_
      case k24b => have := hXd.ord; omega
      case k24c => unfold maxLen; omega
      case k24d => omega
      intro v' wya hown hg hat
      obtain ⟨M3, c3, e3, hXA⟩ := hXd.app (HY.out.1.grow (Go.Joins.below_alloc1 wyc _)) HY.out.2.2 (fun x hx => by have := (HX.out.ab.rows x hx).lt; have := HY.out.2.1; omega) hxl hxs hown hg
      subst e3
      have HXA : Hid (XSt w c X f wya (.slice (some ⟨M, 0, none⟩) rs.length cap) M3 c3 (rs ++ [y])) := hXA
      clear hown hg hat hXA hXd hox hxl hxs
      clear hHeld
      refine hK.out _ _ trivial (fun hHeld => ?_)
      clear hK K
      try simp only [Act.put, List.setIfInBounds_toArray, List.set_cons_zero, List.set_cons_succ]
      
      refine wpAnyH_take (i := 9) (oi := { dst := some 33, op := Op.fieldAddr 26 (Operand.tmp 3) 1, type := 0, pos := "l06_chain.go:81", after := #[{ on := 0, ground := Ground.phase }, { on := 1, ground := Ground.phase }, { on := 2, ground := Ground.phase }, { on := 3, ground := Ground.phase }, { on := 4, ground := Ground.phase }, { on := 5, ground := Ground.phase }, { on := 6, ground := Ground.phase }, { on := 7, ground := Ground.phase }, { on := 8, ground := Ground.phase }], guard := none }) (v := ?vd232) rfl (by kernel_rfl) (by kernel_rfl) (by kernel_rfl) (fun _ _ _ h => h) (Or.inl ⟨by rfl, ?hyd232⟩) hHeld ?_
      case hyd232 => (intro w hSw; (try dsimp only at hSw); go_simp <;> with_reducible rfl)
      try simp only [Act.put, List.setIfInBounds_toArray, List.set_cons_zero, List.set_cons_succ]
      refine wpAnyH_ready (rs := [10]) (by kernel_rfl) (by simp) ?_
      refine AllReadyH.cons (o := { dst := none, op := Op.store 24 (Operand.tmp 33) (Operand.tmp 32), type := 0, pos := "l06_chain.go:81", after := #[{ on := 9, ground := Ground.data }, { on := 8, ground := Ground.data }, { on := 8, ground := Ground.chain }, { on := 0, ground := Ground.phase }, { on := 1, ground := Ground.phase }, { on := 2, ground := Ground.phase }, { on := 3, ground := Ground.phase }, { on := 4, ground := Ground.phase }, { on := 5, ground := Ground.phase }, { on := 6, ground := Ground.phase }, { on := 7, ground := Ground.phase }, { on := 8, ground := Ground.phase }], guard := none }) rfl (fun K hK => ?_) AllReadyH.nil
      have cD : wya.cell? ⟨X, 1, none⟩ = some (.slice (some ⟨M, 0, none⟩) rs.length cap) := HXA.out.bX.cell 1
      have fD := HXA.out.bX.frozen 1
      go_simp
      clear cD fD
      clear hHeld
      refine hK.out _ _ trivial (fun hHeld => ?_)
      clear hK K
      try simp only [Act.put, List.setIfInBounds_toArray, List.set_cons_zero, List.set_cons_succ]
      
      refine wpAnyH_done (by kernel_rfl) ?_ _
      have HXZ : Hid (XSt w c X f (wya.setCell ⟨X, 1, none⟩ (.slice (some ⟨M3, 0, none⟩) (rs.length + 1) c3)) (.slice (some ⟨M3, 0, none⟩) (rs.length + 1) c3) M3 c3 (rs ++ [y])) := HXA.out.setL _
      clear hHeld HXA HXc HY
      generalize wya.setCell ⟨X, 1, none⟩ (.slice (some ⟨M3, 0, none⟩) (rs.length + 1) c3) = W3 at *
      have r0 : W3.cell? ⟨w.heap.size, 0, none⟩ = some (.int .i64 0) := HXZ.out.bR.cell 0
      have r1 : W3.cell? ⟨w.heap.size, 1, none⟩ = some (.slice none 0 0) := HXZ.out.bR.cell 1
      have f0 := HXZ.out.bR.frozen 0
      have f1 := HXZ.out.bR.frozen 1
      have x0 : W3.cell? ⟨X, 0, none⟩ = some (.int .i64 f) := HXZ.out.bX.cell 0
      have x1 : W3.cell? ⟨X, 1, none⟩ = some (.slice (some ⟨M3, 0, none⟩) (rs.length + 1) c3) := HXZ.out.bX.cell 1
      go_wp2
      have hs : Blk ((W3.setCell ⟨w.heap.size, 0, none⟩ (.int .i64 f)).setCell ⟨w.heap.size, 1, none⟩ (.slice (some ⟨M3, 0, none⟩) (rs.length + 1) c3)) w.heap.size #[.int .i64 f, .slice (some ⟨M3, 0, none⟩) (rs.length + 1) c3] 26 := (HXZ.out.bR.set 0 _).set 1 _
      have s0 := hs.cell 0
      have s1 := hs.cell 1
      refine bodyPost_ret (v := .agg #[.int .i64 f, .slice (some ⟨M3, 0, none⟩) (rs.length + 1) c3]) (by simp [results, Try.results42, go_sem, s0, s1]) rfl ?_
      exact ⟨f, M3, c3, rs ++ [y], retA (by simp), HXZ.out.fin _ _, by simp; omega, HFB.out⟩
    refine AllReadyH.cons (o := { dst := some 31, op := Op.buildSlice 24 1 #[(0, Operand.tmp 30)], type := 24, pos := "l06_chain.go:81", after := #[{ on := 6, ground := Ground.data }], guard := none }) rfl (fun K hK => ?_) AllReadyH.nil
    go_simp
    clear hHeld
    refine hK.out _ _ trivial (fun hHeld => ?_)
    clear hK K
    try simp only [Act.put, List.setIfInBounds_toArray, List.set_cons_zero, List.set_cons_succ]
    
    refine wpAnyH_ready (rs := [1]) (by kernel_rfl) (by simp) ?_
    refine AllReadyH.cons (o := { dst := some 25, op := Op.load 24 (Operand.tmp 24), type := 24, pos := "l06_chain.go:81", after := #[{ on := 0, ground := Ground.data }], guard := none }) rfl (fun K hK => ?_) AllReadyH.nil
    have cD : (wyc.alloc (.cells #[.slice (some ⟨y.1, 0, none⟩) y.2.2.l.length y.2.1, .int .i64 y.2.2.s, .int .i64 y.2.2.e, .string y.2.2.n] 29)).cell? ⟨X, 1, none⟩ = some (.slice (some ⟨M, 0, none⟩) rs.length cap) := ((HXc.out.bX.alloc _)).cell 1
    go_simp
    clear cD
    clear hHeld
    refine hK.out _ _ trivial (fun hHeld => ?_)
    clear hK K
    try simp only [Act.put, List.setIfInBounds_toArray, List.set_cons_zero, List.set_cons_succ]
    
    refine wpAnyH_ready (rs := [8]) (by kernel_rfl) (by simp) ?_
    refine AllReadyH.cons (o := { dst := some 32, op := Op.call { callee := Callee.builtin Builtin.append, args := #[Operand.tmp 25, Operand.tmp 31], argTypes := #[24, 24] }, type := 24, pos := "l06_chain.go:81", after := #[{ on := 1, ground := Ground.data }, { on := 7, ground := Ground.data }, { on := 6, ground := Ground.chain }], guard := none }) rfl (fun K hK => ?_) AllReadyH.nil
    have hXd : XSt w c X f (wyc.alloc (.cells #[.slice (some ⟨y.1, 0, none⟩) y.2.2.l.length y.2.1, .int .i64 y.2.2.s, .int .i64 y.2.2.e, .string y.2.2.n] 29)) (.slice (some ⟨M, 0, none⟩) rs.length cap) M cap rs := HXc.out.grow (Go.Joins.below_alloc1 wyc _)
    obtain ⟨xs, hox, hxl, hxs⟩ := hXd.ab.own
    refine step_appB rfl _ _ 24 rfl 29 i0 (.agg #[.slice none 0 0, .int .i64 0, .int .i64 0, .string ByteArray.empty]) 4 56 Try.underlying24 hi hz0 hz1 hz2 rfl (by decide) (w.heap.size + 1) ?k25b (.slice (some ⟨M, 0, none⟩) rs.length cap) rs.length xs rfl hox ⟨wyc.heap.size, 0, none⟩ 1 1 (rowV y) rfl rfl (blk_news (Blk.new _ _ _)) (row_one _) ?k25c ?k25d ?_
    case k25b => have := hXd.ord; omega
    case k25c => unfold maxLen; omega
    case k25d => omega
    intro v' wya hown hg hat
    obtain ⟨M3, c3, e3, hXA⟩ := hXd.app (HY.out.1.grow (Go.Joins.below_alloc1 wyc _)) HY.out.2.2 (fun x hx => by have := (HX.out.ab.rows x hx).lt; have := HY.out.2.1; omega) hxl hxs hown hg
    subst e3
    have HXA : Hid (XSt w c X f wya (.slice (some ⟨M, 0, none⟩) rs.length cap) M3 c3 (rs ++ [y])) := hXA
    clear hown hg hat hXA hXd hox hxl hxs
    clear hHeld
    refine hK.out _ _ trivial (fun hHeld => ?_)
    clear hK K
    try simp only [Act.put, List.setIfInBounds_toArray, List.set_cons_zero, List.set_cons_succ]
    
    refine wpAnyH_take (i := 9) (oi := { dst := some 33, op := Op.fieldAddr 26 (Operand.tmp 3) 1, type := 0, pos := "l06_chain.go:81", after := #[{ on := 0, ground := Ground.phase }, { on := 1, ground := Ground.phase }, { on := 2, ground := Ground.phase }, { on := 3, ground := Ground.phase }, { on := 4, ground := Ground.phase }, { on := 5, ground := Ground.phase }, { on := 6, ground := Ground.phase }, { on := 7, ground := Ground.phase }, { on := 8, ground := Ground.phase }], guard := none }) (v := ?vd237) rfl (by kernel_rfl) (by kernel_rfl) (by kernel_rfl) (fun _ _ _ h => h) (Or.inl ⟨by rfl, ?hyd237⟩) hHeld ?_
    case hyd237 => (intro w hSw; (try dsimp only at hSw); go_simp <;> with_reducible rfl)
    try simp only [Act.put, List.setIfInBounds_toArray, List.set_cons_zero, List.set_cons_succ]
    refine wpAnyH_ready (rs := [10]) (by kernel_rfl) (by simp) ?_
    refine AllReadyH.cons (o := { dst := none, op := Op.store 24 (Operand.tmp 33) (Operand.tmp 32), type := 0, pos := "l06_chain.go:81", after := #[{ on := 9, ground := Ground.data }, { on := 8, ground := Ground.data }, { on := 8, ground := Ground.chain }, { on := 0, ground := Ground.phase }, { on := 1, ground := Ground.phase }, { on := 2, ground := Ground.phase }, { on := 3, ground := Ground.phase }, { on := 4, ground := Ground.phase }, { on := 5, ground := Ground.phase }, { on := 6, ground := Ground.phase }, { on := 7, ground := Ground.phase }, { on := 8, ground := Ground.phase }], guard := none }) rfl (fun K hK => ?_) AllReadyH.nil
    have cD : wya.cell? ⟨X, 1, none⟩ = some (.slice (some ⟨M, 0, none⟩) rs.length cap) := HXA.out.bX.cell 1
    have fD := HXA.out.bX.frozen 1
    go_simp
    clear cD fD
    clear hHeld
    refine hK.out _ _ trivial (fun hHeld => ?_)
    clear hK K
    try simp only [Act.put, List.setIfInBounds_toArray, List.set_cons_zero, List.set_cons_succ]
    
    refine wpAnyH_done (by kernel_rfl) ?_ _
    have HXZ : Hid (XSt w c X f (wya.setCell ⟨X, 1, none⟩ (.slice (some ⟨M3, 0, none⟩) (rs.length + 1) c3)) (.slice (some ⟨M3, 0, none⟩) (rs.length + 1) c3) M3 c3 (rs ++ [y])) := HXA.out.setL _
    clear hHeld HXA HXc HY
    generalize wya.setCell ⟨X, 1, none⟩ (.slice (some ⟨M3, 0, none⟩) (rs.length + 1) c3) = W3 at *
    have r0 : W3.cell? ⟨w.heap.size, 0, none⟩ = some (.int .i64 0) := HXZ.out.bR.cell 0
    have r1 : W3.cell? ⟨w.heap.size, 1, none⟩ = some (.slice none 0 0) := HXZ.out.bR.cell 1
    have f0 := HXZ.out.bR.frozen 0
    have f1 := HXZ.out.bR.frozen 1
    have x0 : W3.cell? ⟨X, 0, none⟩ = some (.int .i64 f) := HXZ.out.bX.cell 0
    have x1 : W3.cell? ⟨X, 1, none⟩ = some (.slice (some ⟨M3, 0, none⟩) (rs.length + 1) c3) := HXZ.out.bX.cell 1
    go_wp2
    have hs : Blk ((W3.setCell ⟨w.heap.size, 0, none⟩ (.int .i64 f)).setCell ⟨w.heap.size, 1, none⟩ (.slice (some ⟨M3, 0, none⟩) (rs.length + 1) c3)) w.heap.size #[.int .i64 f, .slice (some ⟨M3, 0, none⟩) (rs.length + 1) c3] 26 := (HXZ.out.bR.set 0 _).set 1 _
    have s0 := hs.cell 0
    have s1 := hs.cell 1
    refine bodyPost_ret (v := .agg #[.int .i64 f, .slice (some ⟨M3, 0, none⟩) (rs.length + 1) c3]) (by simp [results, Try.results42, go_sem, s0, s1]) rfl ?_
    exact ⟨f, M3, c3, rs ++ [y], retA (by simp), HXZ.out.fin _ _, by simp; omega, HFB.out⟩
  have d2' : (z == 2) = false := by simpa using e2
  by_cases e3 : z = 3
  · subst e3
    have HXa : Hid (XSt w c X f (w2.alloc (.cells #[] 29)) (.slice (some ⟨M, 0, none⟩) rs.length cap) M cap rs) := HX.out.grow (Go.Joins.below_alloc1 w2 _)
    have HXb : Hid (XSt w c X f (w2.alloc (.cells #[] 29)) (.slice (some ⟨M, 0, none⟩) rs.length cap) w2.heap.size 0 []) := ⟨HXa.out.cur, HXa.out.kept, HXa.out.clt, HXa.out.ord, HXa.out.bR, HXa.out.bX, AB.nil (Blk.new _ _ _) (by have := HX.out.ord; omega), fines_nil⟩
    have HXZ : Hid (XSt w c X f ((w2.alloc (.cells #[] 29)).setCell ⟨X, 1, none⟩ (.slice (some ⟨w2.heap.size, 0, none⟩) 0 0)) (.slice (some ⟨w2.heap.size, 0, none⟩) 0 0) w2.heap.size 0 []) := HXb.out.setL _
    have q1 : (w2.alloc (.cells #[] 29)).cell? ⟨X, 1, none⟩ = some (.slice (some ⟨M, 0, none⟩) rs.length cap) := HXa.out.bX.cell 1
    have g1 := HXa.out.bX.frozen 1
    go_upto_region 11 with fail
    clear q1 g1 HXa HXb
    generalize (w2.alloc (.cells #[] 29)).setCell ⟨X, 1, none⟩ (.slice (some ⟨w2.heap.size, 0, none⟩) 0 0) = W3 at *
    have r0 : W3.cell? ⟨w.heap.size, 0, none⟩ = some (.int .i64 0) := HXZ.out.bR.cell 0
    have r1 : W3.cell? ⟨w.heap.size, 1, none⟩ = some (.slice none 0 0) := HXZ.out.bR.cell 1
    have f0 := HXZ.out.bR.frozen 0
    have f1 := HXZ.out.bR.frozen 1
    have x0 : W3.cell? ⟨X, 0, none⟩ = some (.int .i64 f) := HXZ.out.bX.cell 0
    have x1 : W3.cell? ⟨X, 1, none⟩ = some (.slice (some ⟨w2.heap.size, 0, none⟩) 0 0) := HXZ.out.bX.cell 1
    go_wp2
    have hs : Blk ((W3.setCell ⟨w.heap.size, 0, none⟩ (.int .i64 f)).setCell ⟨w.heap.size, 1, none⟩ (.slice (some ⟨w2.heap.size, 0, none⟩) 0 0)) w.heap.size #[.int .i64 f, .slice (some ⟨w2.heap.size, 0, none⟩) 0 0] 26 := (HXZ.out.bR.set 0 _).set 1 _
    have s0 := hs.cell 0
    have s1 := hs.cell 1
    refine bodyPost_ret (v := .agg #[.int .i64 f, .slice (some ⟨w2.heap.size, 0, none⟩) 0 0]) (by simp [results, Try.results42, go_sem, s0, s1]) rfl ?_
    exact ⟨f, w2.heap.size, 0, [], rfl, HXZ.out.fin _ _, by simp, HFB.out⟩
  have d3' : (z == 3) = false := by simpa using e3
  go_upto_region 11 with fail
  have r0 : w2.cell? ⟨w.heap.size, 0, none⟩ = some (.int .i64 0) := HX.out.bR.cell 0
  have r1 : w2.cell? ⟨w.heap.size, 1, none⟩ = some (.slice none 0 0) := HX.out.bR.cell 1
  have f0 := HX.out.bR.frozen 0
  have f1 := HX.out.bR.frozen 1
  have x0 : w2.cell? ⟨X, 0, none⟩ = some (.int .i64 f) := HX.out.bX.cell 0
  have x1 : w2.cell? ⟨X, 1, none⟩ = some (.slice (some ⟨M, 0, none⟩) rs.length cap) := HX.out.bX.cell 1
  go_wp2
  have hs : Blk ((w2.setCell ⟨w.heap.size, 0, none⟩ (.int .i64 f)).setCell ⟨w.heap.size, 1, none⟩ (.slice (some ⟨M, 0, none⟩) rs.length cap)) w.heap.size #[.int .i64 f, .slice (some ⟨M, 0, none⟩) rs.length cap] 26 := (HX.out.bR.set 0 _).set 1 _
  have s0 := hs.cell 0
  have s1 := hs.cell 1
  refine bodyPost_ret (v := .agg #[.int .i64 f, .slice (some ⟨M, 0, none⟩) rs.length cap]) (by simp [results, Try.results42, go_sem, s0, s1]) rfl ?_
  exact ⟨f, M, cap, rs, rfl, HX.out.fin _ _, by omega, HFB.out⟩
end Go.Proofs.Ytcopckbpflmmeaa.DrawD
