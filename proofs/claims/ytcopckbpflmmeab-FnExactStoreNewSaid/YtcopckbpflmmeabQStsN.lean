/-
  PROVED: impl.copiedPart, impl.copiedParts and spec.l8Copy give the same parts in memory of their own; nothing that was there is changed.
  PROVED: spec.StoreNew and impl.StoreNew give as many parts of nothing as a plain function says, in memory of their own; nothing that was there is changed.
-/
import Derived.Test.YtcopckbpflmmeabQSts
import Derived.Test.YtcopckbpflmmeabQPrtC
import Derived.Deep.CutRange
import Derived.Deep.RegionHeld3
set_option linter.unusedVariables false
namespace Go.Proofs.Ytcopckbpflmmeab.StsC
open Go.RowKit
open Labs LabS Alms AlmS AlmM Over Blk App Rws ChnI ChnC ChnP ChnK Chs Prt PrtM Sts
theorem bel_box {w w' : World} {o : Obj} (h : Below (w.alloc o).heap.size (w.alloc o) w') : Below w.heap.size w w' := grow_on (Go.Joins.below_alloc1 w o) h
set_option maxRecDepth 100000 in
set_option maxHeartbeats 3200000 in
theorem copiedPart_any (hd vr : Int) (a : Option Addr) (cap : Nat) (C : List PCh) (w : World) (hr : RdG RdA w a C) (hl : C.length ≤ 1048576) (hs : sumC C ≤ 1048576) :
    Calls Try.prog 58 #[.agg #[.int .i64 hd, .int .i64 vr, .slice a C.length cap]] w fun r w' => (∃ M cs, r = .returned (.agg #[.int .i64 hd, .int .i64 vr, .slice (some ⟨M, 0, none⟩) C.length C.length]) ∧ CB w.heap.size w' M C.length cs ∧ chs cs = C) ∧ Below w.heap.size w w' := by
  have HR : Hid (RdG RdA w a C ∧ sumC C ≤ 1048576) := ⟨hr, hs⟩
  clear hr hs
  have hmk := make_k (P := Try.prog) 26 52 (.agg #[.int .i64 0, .slice none 0 0]) 2 32 Try.underlying26 infoC .i64 .i64 C.length (by omega) (by omega)
  go_enter Try.func58, Try.ntmps58
  go_upto_region 1 with fail
  go_cut [3] from 6 to 14 (fun s3 wx => ∃ (N M : Nat), s3 = .pointer (some ⟨N, 0, none⟩) ∧ Blk wx N #[.int .i64 hd, .int .i64 vr, .slice (some ⟨M, 0, none⟩) C.length C.length] 28 ∧ Blk wx M (madeCells (Value.agg #[.int .i64 0, .slice none 0 0]).cells (C.length * 2)) 52 ∧ (w.heap.size + 2 ≤ N ∧ w.heap.size + 2 ≤ M) ∧ Blk wx w.heap.size #[.int .i64 hd, .int .i64 vr, .slice a C.length cap] 28 ∧ Blk wx (w.heap.size + 1) #[.int .i64 0, .int .i64 0, .slice none 0 0] 28 ∧ Below w.heap.size w wx)
  case first =>
    go_region
    all_goals (go_wp2_with fail)
    all_goals go_meet
    · exact ⟨_, w.heap.size + 1 + 1, rfl, (Blk.new_at (by simp)).drew, ((Blk.new_at (by simp)).alloc _).drew, ⟨by omega, by omega⟩, ((((Blk.new _ _ _).alloc _).alloc _).alloc _).drew, (((Blk.new_at (by simp)).alloc _).alloc _).drew, (((Alm.below3 w _ _ _).alloc (by simp; omega) _)).drew⟩
    · exact ⟨_, w.heap.size + 1 + 1 + 1, rfl, ((Blk.new_at (by simp)).alloc _).drew, (Blk.new_at (by simp)).drew, ⟨by omega, by omega⟩, ((((Blk.new _ _ _).alloc _).alloc _).alloc _).drew, (((Blk.new_at (by simp)).alloc _).alloc _).drew, (((Alm.below3 w _ _ _).alloc (by simp; omega) _)).drew⟩
  case rest =>
    obtain ⟨N, M, rfl, hN, hM, hNM, hC, hR, hB⟩ := hcut
    obtain ⟨w1, hwc⟩ : ∃ x, x = wc := ⟨_, rfl⟩
    subst hwc
    have c2 : w1.cell? ⟨w.heap.size, 2, none⟩ = some (.slice a C.length cap) := hC.cell 2
    have H0 : Hid (Blk w1 N #[.int .i64 hd, .int .i64 vr, .slice (some ⟨M, 0, none⟩) C.length C.length] 28 ∧ Blk w1 w.heap.size #[.int .i64 hd, .int .i64 vr, .slice a C.length cap] 28 ∧ Blk w1 (w.heap.size + 1) #[.int .i64 0, .int .i64 0, .slice none 0 0] 28 ∧ Below w.heap.size w w1) := ⟨hN, hC, hR, hB⟩
    have HM0 : Hid (Blk w1 M (madeCells (Value.agg #[.int .i64 0, .slice none 0 0]).cells (C.length * 2)) 52) := hM
    clear hN hC hR hB hM hmk
    go_wp2
    go_loopw [18] (fun i w' => ∃ (k : Nat) (cur : Array Value) (cs : List CRow), k ≤ C.length ∧ i = .int .i64 k ∧ FillC (w.heap.size + 2) w' M C k cur cs ∧ Blk w' N #[.int .i64 hd, .int .i64 vr, .slice (some ⟨M, 0, none⟩) C.length C.length] 28 ∧ Blk w' w.heap.size #[.int .i64 hd, .int .i64 vr, .slice a C.length cap] 28 ∧ Blk w' (w.heap.size + 1) #[.int .i64 0, .int .i64 0, .slice none 0 0] 28 ∧ Below w.heap.size w w' ∧ w.heap.size + 2 ≤ w'.heap.size) (fun i _ => C.length - (intOf i).toNat)
    case atStart => exact ⟨0, _, [], Nat.zero_le _, rfl, ⟨HM0.out, by simp [size_madeCells], rfl, rfl, fun i h => by omega, RowsC.nil _ _⟩, H0.out.1, H0.out.2.1, H0.out.2.2.1, H0.out.2.2.2, by have := H0.out.2.2.1.lt; omega⟩
    case round =>
      clear H0 HM0 c2
      obtain ⟨k, cur, cs, hk, rfl, hF, hN, hC, hR, hB, hwz⟩ := hrel
      have HF : Hid (FillC (w.heap.size + 2) wr M C k cur cs) := hF
      have H1 : Hid (Blk wr N #[.int .i64 hd, .int .i64 vr, .slice (some ⟨M, 0, none⟩) C.length C.length] 28 ∧ Blk wr w.heap.size #[.int .i64 hd, .int .i64 vr, .slice a C.length cap] 28 ∧ Blk wr (w.heap.size + 1) #[.int .i64 0, .int .i64 0, .slice none 0 0] 28 ∧ Below w.heap.size w wr) := ⟨hN, hC, hR, hB⟩
      clear hF hN hC hR hB
      by_cases hlt : k < C.length
      · have hlt' : (k : Int) < (C.length : Int) := by omega
        obtain ⟨b, off, ea, hb, ad, cp, hat⟩ := (HR.out.1.below stays_rd H1.out.2.2.2).get hlt
        cases ea
        have h2 := hat.c0
        have h3 := hat.c1
        have HA : Hid (RdA wr ad (nthC C k).P) := hat.reads
        have HS1 : Hid ((nthC C k).P.length ≤ 1048576 ∧ LenM (nthC C k).P) := by have h0 := sumC_nth hlt; have h1 := HR.out.2; exact ⟨by omega, lenM_of (by omega)⟩
        clear hat
        go_upto_region 5 with fail
        obtain ⟨W4, hW4⟩ : ∃ W4, wr.alloc (.cells #[.int .i64 (nthC C k).f, .slice ad (nthC C k).P.length cp] 52) = W4 := ⟨_, rfl⟩
        have H4 : Hid (Blk W4 wr.heap.size #[.int .i64 (nthC C k).f, .slice ad (nthC C k).P.length cp] 52 ∧ Below wr.heap.size wr W4) := by
          rw [← hW4]
          exact ⟨Blk.new _ _ _, Go.Joins.below_alloc1 wr _⟩
        rw [hW4]
        clear hW4 h2 h3
        have HF4 : Hid (FillC (w.heap.size + 2) W4 M C k cur cs) := HF.out.grow H4.out.2
        have HN4 : Hid (Blk W4 N #[.int .i64 hd, .int .i64 vr, .slice (some ⟨M, 0, none⟩) C.length C.length] 28) := H1.out.1.grow H4.out.2
        have HCL : Hid (∀ z, Below W4.heap.size W4 z → Calls Try.prog 42 #[.agg #[.int .i64 (nthC C k).f, .slice ad (nthC C k).P.length cp]] z fun e w' => (∃ M rs, e = .returned (.agg #[.int .i64 (nthC C k).f, .slice (some ⟨M, 0, none⟩) (nthC C k).P.length (nthC C k).P.length]) ∧ AB z.heap.size w' M (nthC C k).P.length rs ∧ pals rs = (nthC C k).P) ∧ Below z.heap.size z w') := fun z hz => implCopy_any _ ad cp _ z (HA.out.below (grow_on H4.out.2 hz)) HS1.out.1 HS1.out.2
        have HS : Hid (∀ w', Blk w' N #[.int .i64 hd, .int .i64 vr, .slice (some ⟨M, 0, none⟩) C.length C.length] 28 → Blk w' wr.heap.size #[.int .i64 (nthC C k).f, .slice ad (nthC C k).P.length cp] 52 → w'.cell? ⟨N, 2, none⟩ = some (.slice (some ⟨M, 0, none⟩) C.length C.length) ∧ w'.cell? ⟨wr.heap.size, 0, none⟩ = some (.int .i64 (nthC C k).f) ∧ w'.cell? ⟨wr.heap.size, 1, none⟩ = some (.slice ad (nthC C k).P.length cp)) := fun w' h k => ⟨h.cell 2, k.cell 0, k.cell 1⟩
        refine wp_region_held_drew (S := fun w' => w'.cell? ⟨N, 2, none⟩ = some (.slice (some ⟨M, 0, none⟩) C.length C.length) ∧ w'.cell? ⟨wr.heap.size, 0, none⟩ = some (.int .i64 (nthC C k).f) ∧ w'.cell? ⟨wr.heap.size, 1, none⟩ = some (.slice ad (nthC C k).P.length cp)) (by kernel_rfl) (HS.out _ HN4.out.drew H4.out.1.drew) (fun hHeld => ?_)
        refine wpAnyH_take (i := 0) (oi := { dst := some 23, op := Op.fieldAddr 28 (Operand.tmp 3) 2, type := 0, pos := "l07_part.go:34", after := #[], guard := none }) (v := ?vc1) rfl (by kernel_rfl) (by kernel_rfl) (by kernel_rfl) (fun _ _ _ h => h) (Or.inl ⟨by rfl, ?hyc1⟩) hHeld ?_
        case hyc1 => (intro w hSw; (try dsimp only at hSw); go_simp <;> with_reducible rfl)
        try simp only [Act.put, List.setIfInBounds_toArray, List.set_cons_zero, List.set_cons_succ]
        refine wpAnyH_take (i := 1) (oi := { dst := some 24, op := Op.load 26 (Operand.tmp 23), type := 26, pos := "l07_part.go:34", after := #[{ on := 0, ground := Ground.data }], guard := none }) (v := ?vc2) rfl (by kernel_rfl) (by kernel_rfl) (by kernel_rfl) (fun _ _ _ h => h) (Or.inl ⟨by rfl, ?hyc2⟩) hHeld ?_
        case hyc2 => (intro w hSw; (try dsimp only at hSw); go_simp <;> with_reducible rfl)
        try simp only [Act.put, List.setIfInBounds_toArray, List.set_cons_zero, List.set_cons_succ]
        refine wpAnyH_take (i := 2) (oi := { dst := some 25, op := Op.move (Operand.tmp 4), type := 3, pos := "l07_part.go:34", after := #[], guard := none }) (v := ?vc3) rfl (by kernel_rfl) (by kernel_rfl) (by kernel_rfl) (fun _ _ _ h => h) (Or.inl ⟨by rfl, ?hyc3⟩) hHeld ?_
        case hyc3 => (intro w hSw; (try dsimp only at hSw); go_simp <;> with_reducible rfl)
        try simp only [Act.put, List.setIfInBounds_toArray, List.set_cons_zero, List.set_cons_succ]
        refine wpAnyH_take (i := 3) (oi := { dst := some 26, op := Op.load 52 (Operand.tmp 5), type := 52, pos := "l07_part.go:34", after := #[], guard := none }) (v := ?vc4) rfl (by kernel_rfl) (by kernel_rfl) (by kernel_rfl) (fun _ _ _ h => h) (Or.inl ⟨by rfl, ?hyc4⟩) hHeld ?_
        case hyc4 => (intro w hSw; (try dsimp only at hSw); go_simp <;> with_reducible rfl)
        try simp only [Act.put, List.setIfInBounds_toArray, List.set_cons_zero, List.set_cons_succ]
        refine wpAnyH_ready (rs := [4]) (by kernel_rfl) (by simp) ?_
        refine AllReadyH.cons (o := { dst := some 27, op := Op.call { callee := Callee.value (Operand.func 42), args := #[Operand.tmp 26], argTypes := #[52] }, type := 52, pos := "l07_part.go:34", after := #[{ on := 3, ground := Ground.data }], guard := none }) rfl (fun K hK => ?_) AllReadyH.nil
        go_simp
        refine (HCL.out _ (Below.refl _ _).drew).mono ?_
        rintro r w5 ⟨⟨M1, rs, rfl, hab, hp⟩, hb5⟩
        replace hb5 : Below W4.heap.size W4 w5 := grow_on (Below.refl _ _).drew hb5
        have HAB : Hid (AB W4.heap.size w5 M1 (nthC C k).P.length rs ∧ pals rs = (nthC C k).P) := ⟨hab.down (Nat.le_refl _), hp⟩
        have HB5 : Hid (Below W4.heap.size W4 w5) := hb5
        clear hab hp hb5 hHeld
        refine hK.out _ _ (HS.out _ (HN4.out.grow HB5.out) (H4.out.1.grow HB5.out)) (fun hHeld => ?_)
        clear hK K
        try simp only [Act.put, List.setIfInBounds_toArray, List.set_cons_zero, List.set_cons_succ]
        refine wpAnyH_take (i := 5) (oi := { dst := some 28, op := Op.indexAddr 26 (Operand.tmp 24) (Operand.tmp 25), type := 0, pos := "l07_part.go:34", after := #[{ on := 1, ground := Ground.data }, { on := 2, ground := Ground.data }, { on := 0, ground := Ground.phase }, { on := 1, ground := Ground.phase }, { on := 2, ground := Ground.phase }, { on := 3, ground := Ground.phase }, { on := 4, ground := Ground.phase }], guard := none }) (v := ?vc6) rfl (by kernel_rfl) (by kernel_rfl) (by kernel_rfl) (fun _ _ _ h => h) (Or.inl ⟨by rfl, ?hyc6⟩) hHeld ?_
        case hyc6 => (intro w hSw; (try dsimp only at hSw); go_simp <;> with_reducible rfl)
        try simp only [Act.put, List.setIfInBounds_toArray, List.set_cons_zero, List.set_cons_succ]
        refine wpAnyH_ready (rs := [6]) (by kernel_rfl) (by simp) ?_
        refine AllReadyH.cons (o := { dst := none, op := Op.store 52 (Operand.tmp 28) (Operand.tmp 27), type := 0, pos := "l07_part.go:34", after := #[{ on := 5, ground := Ground.data }, { on := 4, ground := Ground.data }, { on := 4, ground := Ground.chain }, { on := 0, ground := Ground.phase }, { on := 1, ground := Ground.phase }, { on := 2, ground := Ground.phase }, { on := 3, ground := Ground.phase }, { on := 4, ground := Ground.phase }], guard := none }) rfl (fun K hK => ?_) AllReadyH.nil
        have hF5 : FillC (w.heap.size + 2) w5 M C k cur cs := HF4.out.grow HB5.out
        have hrl : rs.length = (nthC C k).P.length := by rw [← pals_len, HAB.out.2]
        have HN5 := hF5.next (x := ⟨(nthC C k).f, M1, (nthC C k).P.length, rs⟩) hlt (HAB.out.1.down (by have := H4.out.2.size; omega)) (by unfold CRow.ch; rw [HAB.out.2]) (HF4.out.rows.fresh (x := ⟨(nthC C k).f, M1, (nthC C k).P.length, rs⟩) HAB.out.1 (Nat.le_refl _))
        unfold put2W put2C at HN5
        rw [hrl] at HN5
        have HC5 : Hid _ := HN5
        have hsz := hF5.size
        obtain ⟨v0, q0⟩ : ∃ v, w5.cell? ⟨M, k * 2, none⟩ = some v := ⟨cur[k * 2]'(by omega), by rw [hF5.blk.cell]; simp⟩
        obtain ⟨v1, q1⟩ : ∃ v, w5.cell? ⟨M, k * 2 + 1, none⟩ = some v := ⟨cur[k * 2 + 1]'(by omega), by rw [hF5.blk.cell]; simp⟩
        have f0 := hF5.blk.frozen (k * 2)
        have f1 := hF5.blk.frozen (k * 2 + 1)
        have hMr : M ≠ wr.heap.size := by have := HF.out.blk.lt; omega
        have hMN : M ≠ N := blkT_ne hF5.blk (HN4.out.grow HB5.out) (by decide)
        have kN : ∀ u0 u1, Blk ((w5.setCell ⟨M, k * 2, none⟩ u0).setCell ⟨M, k * 2 + 1, none⟩ u1) N #[.int .i64 hd, .int .i64 vr, .slice (some ⟨M, 0, none⟩) C.length C.length] 28 := fun u0 u1 => ((HN4.out.grow HB5.out).set_other hMN u0).set_other hMN u1
        have kX : ∀ u0 u1, Blk ((w5.setCell ⟨M, k * 2, none⟩ u0).setCell ⟨M, k * 2 + 1, none⟩ u1) wr.heap.size #[.int .i64 (nthC C k).f, .slice ad (nthC C k).P.length cp] 52 := fun u0 u1 => ((H4.out.1.grow HB5.out).set_other hMr u0).set_other hMr u1
        have HKN : Hid (∀ u0 u1, Blk ((w5.setCell ⟨M, k * 2, none⟩ u0).setCell ⟨M, k * 2 + 1, none⟩ u1) N #[.int .i64 hd, .int .i64 vr, .slice (some ⟨M, 0, none⟩) C.length C.length] 28) := kN
        clear hF5 hsz HN5 hrl
        go_simp
        clear q0 q1 f0 f1 hHeld
        refine hK.out _ _ (HS.out _ (kN _ _) (kX _ _)) (fun hHeld => ?_)
        clear hK K kN kX
        try simp only [Act.put, List.setIfInBounds_toArray, List.set_cons_zero, List.set_cons_succ]
        refine wpAnyH_done (by kernel_rfl) ?_ _
        have HB6 : Hid (Below w.heap.size w w5) := grow_on (grow_on H1.out.2.2.2 H4.out.2) HB5.out
        have HP6 : Hid (Blk w5 w.heap.size #[.int .i64 hd, .int .i64 vr, .slice (some ⟨b, off, none⟩) C.length cap] 28 ∧ Blk w5 (w.heap.size + 1) #[.int .i64 0, .int .i64 0, .slice none 0 0] 28 ∧ M ≠ w.heap.size ∧ M ≠ w.heap.size + 1 ∧ w.heap.size + 2 ≤ w5.heap.size ∧ w.heap.size ≤ M) := ⟨(H1.out.2.1.grow H4.out.2).grow HB5.out, (H1.out.2.2.1.grow H4.out.2).grow HB5.out, by omega, by omega, by have := H4.out.2.size; have := HB5.out.size; omega, by omega⟩
        clear hHeld
        go_wp2
        go_roundw
        case rel => exact ⟨k + 1, _, _, by omega, by go_num, HC5.out, HKN.out _ _, (HP6.out.1.set_other HP6.out.2.2.1 _).set_other HP6.out.2.2.1 _, (HP6.out.2.1.set_other HP6.out.2.2.2.1 _).set_other HP6.out.2.2.2.1 _, (HB6.out.setCell HP6.out.2.2.2.2.2 _).setCell HP6.out.2.2.2.2.2 _, by rw [size_setCell, size_setCell]; exact HP6.out.2.2.2.2.1⟩
        case measure => simp [intOf]; omega
      have hge : ¬ (k : Int) < (C.length : Int) := by omega
      have HE : Hid (k = C.length) := by show k = C.length; omega
      have hN := H1.out.1
      have hR := H1.out.2.2.1
      have o0 : wr.cell? ⟨N, 0, none⟩ = some (.int .i64 hd) := hN.cell 0
      have o1 : wr.cell? ⟨N, 1, none⟩ = some (.int .i64 vr) := hN.cell 1
      have o2 : wr.cell? ⟨N, 2, none⟩ = some (.slice (some ⟨M, 0, none⟩) C.length C.length) := hN.cell 2
      have r0 : wr.cell? ⟨w.heap.size + 1, 0, none⟩ = some (.int .i64 0) := hR.cell 0
      have r1 : wr.cell? ⟨w.heap.size + 1, 1, none⟩ = some (.int .i64 0) := hR.cell 1
      have r2 : wr.cell? ⟨w.heap.size + 1, 2, none⟩ = some (.slice none 0 0) := hR.cell 2
      have f0 := hR.frozen 0
      have f1 := hR.frozen 1
      have f2 := hR.frozen 2
      clear hN hR
      go_wp2
      have hs := put3 H1.out.2.2.1 (.int .i64 hd) (.int .i64 vr) (.slice (some ⟨M, 0, none⟩) C.length C.length)
      have s0 := hs.cell 0
      have s1 := hs.cell 1
      have s2 := hs.cell 2
      refine bodyPost_ret (v := .agg #[.int .i64 hd, .int .i64 vr, .slice (some ⟨M, 0, none⟩) C.length C.length]) (by simp [results, Try.results58, go_sem, s0, s1, s2]) rfl ?_
      have hF := HF.out
      rw [HE.out] at hF
      have hcb := hF.cb hNM.2 hl
      have hfin : CB w.heap.size _ M C.length cs ∧ chs cs = C := ⟨(CB.set3 hcb.1 H1.out.2.2.1 (.int .i64 hd) (.int .i64 vr) (.slice (some ⟨M, 0, none⟩) C.length C.length)).down (by omega), hcb.2⟩
      first | exact ⟨⟨M, cs, rfl, hfin.1, hfin.2⟩, set3 H1.out.2.2.2 (by omega) _ _ _⟩ | exact ⟨⟨M, rfl, cs, hfin.1, hfin.2⟩, set3 H1.out.2.2.2 (by omega) _ _ _⟩ | exact ⟨⟨rfl, cs, hfin.1, hfin.2⟩, set3 H1.out.2.2.2 (by omega) _ _ _⟩
set_option maxHeartbeats 1600000 in
theorem copiedParts_any (a : Option Addr) (cap : Nat) (S : List PPt) (w : World) (hr : RdS RdA w a S) (hl : S.length ≤ 1048576) (hs : sumT S ≤ 1048576) :
    Calls Try.prog 44 #[.slice a S.length cap] w fun e w' => e = .returned (.slice (some ⟨w.heap.size, 0, none⟩) S.length S.length) ∧ (∃ ps, PB w.heap.size w' w.heap.size S.length ps ∧ pts ps = S ∧ Own8 ps) ∧ Below w.heap.size w w' := by
  have HR : Hid (RdS RdA w a S) := hr
  have HS : Hid (sumT S ≤ 1048576) := hs
  clear hr hs
  have hmk := make_k (P := Try.prog) 40 28 (.agg #[.int .i64 0, .int .i64 0, .slice none 0 0]) 3 40 Try.underlying40 infoP .i64 .i64 S.length (by omega) (by omega)
  go_enter Try.func44, Try.ntmps44
  go_wp2
  go_loopw [11] (fun i w' => ∃ (k : Nat) (cur : Array Value) (ps : List PRow), k ≤ S.length ∧ i = .int .i64 k ∧ FillP w.heap.size w' w.heap.size S k cur ps ∧ Below w.heap.size w w') (fun i _ => S.length - (intOf i).toNat)
  case atStart => exact ⟨0, _, [], Nat.zero_le _, rfl, ⟨Blk.new _ _ _, by simp [size_madeCells], rfl, rfl, fun i h => by omega, fun x hx => by simp at hx, Own8.nil⟩, (Below.refl _ _).alloc (Nat.le_refl _) _⟩
  case round =>
    clear hmk
    obtain ⟨k, cur, ps, hk, rfl, hC, hw0⟩ := hrel
    have HB : Hid (Below w.heap.size w wr) := hw0
    have HC : Hid (FillP w.heap.size wr w.heap.size S k cur ps) := hC
    clear hC hw0
    by_cases hlt : k < S.length
    · have hlt' : (k : Int) < (S.length : Int) := by omega
      obtain ⟨b, off, rfl, hb, ad, cp, hat⟩ := (HR.out.below stays_rd HB.out).get hlt
      have h2 := hat.c0
      have h3 := hat.c1
      have h4 := hat.c2
      have HA : Hid (RdG RdA wr ad (nthT S k).C) := hat.reads
      have HS1 : Hid ((nthT S k).C.length ≤ 1048576 ∧ sumC (nthT S k).C ≤ 1048576) := by have := sumT_nth hlt; have := HS.out; constructor <;> omega
      clear hat
      go_wp2_with fail
      refine (copiedPart_any _ _ ad cp _ _ (HA.out.below stays_rd (Go.Joins.below_alloc1 wr _)) HS1.out.1 HS1.out.2).mono ?_
      rintro e w1 ⟨⟨M1, cs, rfl, hab, hp⟩, hb1⟩
      replace hb1 : Below wr.heap.size wr w1 := bel_box hb1
      replace hab : CB wr.heap.size w1 M1 (nthT S k).C.length cs := hab.down (by first | exact Nat.le_refl _ | simp)
      have HB1 : Hid (Below w.heap.size w w1) := grow_on HB.out hb1
      have hC1 : FillP w.heap.size w1 w.heap.size S k cur ps := HC.out.grow hb1
      have hrl : cs.length = (nthT S k).C.length := by rw [← chs_len, hp]
      have HN := hC1.next (x := ⟨(nthT S k).hd, (nthT S k).vr, some ⟨M1, 0, none⟩, (nthT S k).C.length, cs⟩) hlt (PO.of (hab.down HB.out.size)) (by unfold PRow.pt; rw [hp]) ⟨M1, rfl⟩ (fresh8 (x := ⟨(nthT S k).hd, (nthT S k).vr, some ⟨M1, 0, none⟩, (nthT S k).C.length, cs⟩) HC.out.rows (PO.of hab) (Nat.le_refl _))
      unfold put3W put3C at HN
      rw [hrl] at HN
      have HC2 : Hid _ := HN
      have hsz := hC1.size
      obtain ⟨v0, c0⟩ : ∃ v, w1.cell? ⟨w.heap.size, k * 3, none⟩ = some v := ⟨cur[k * 3]'(by omega), by rw [hC1.blk.cell]; simp⟩
      obtain ⟨v1, c1⟩ : ∃ v, w1.cell? ⟨w.heap.size, k * 3 + 1, none⟩ = some v := ⟨cur[k * 3 + 1]'(by omega), by rw [hC1.blk.cell]; simp⟩
      obtain ⟨v2, c2⟩ : ∃ v, w1.cell? ⟨w.heap.size, k * 3 + 2, none⟩ = some v := ⟨cur[k * 3 + 2]'(by omega), by rw [hC1.blk.cell]; simp⟩
      have f0 := hC1.blk.frozen (k * 3)
      have f1 := hC1.blk.frozen (k * 3 + 1)
      have f2 := hC1.blk.frozen (k * 3 + 2)
      clear hb1 h2 h3 h4 hC1 hsz HN hab hp hrl
      go_wp2
      go_roundw
      case rel => exact ⟨k + 1, _, _, by omega, by go_num, HC2.out, ((HB1.out.setCell (Nat.le_refl _) _).setCell (Nat.le_refl _) _).setCell (Nat.le_refl _) _⟩
      case measure => simp [intOf]; omega
    · have hge : ¬ (k : Int) < (S.length : Int) := by omega
      have HE : Hid (k = S.length) := by show k = S.length; omega
      go_wp2
      go_ret
      have hF := HC.out
      rw [HE.out] at hF
      exact ⟨rfl, ⟨ps, hF.pb (Nat.le_refl _) hl⟩, HB.out⟩
end Go.Proofs.Ytcopckbpflmmeab.StsC
namespace Go.Proofs.Ytcopckbpflmmeab.StsN
open Go.RowKit
open Labs LabS Alms AlmM Over Blk App Rws ChnI ChnC ChnP ChnK Chs Prt PrtM Sts StsC

def lenV : Value → Nat
  | .slice _ n _ => n
  | _ => 0
def noneP : PPt := ⟨-1, 0, []⟩
def noneR : PRow := ⟨-1, 0, none, 0, []⟩
def newN (n : Int) : Nat := if 1 ≤ n ∧ n ≤ 3 then n.toNat else 1
def newS (n : Int) : List PPt := List.replicate (newN n) noneP
theorem newN_cases (n : Int) : (newN n = 1 ∧ (n < 1 ∨ 3 < n ∨ n = 1)) ∨ (newN n = 2 ∧ n = 2) ∨ (newN n = 3 ∧ n = 3) := by
  unfold newN
  split
  · have : n = 1 ∨ n = 2 ∨ n = 3 := by omega
    rcases this with rfl | rfl | rfl
    · exact .inl ⟨rfl, by omega⟩
    · exact .inr (.inl ⟨rfl, rfl⟩)
    · exact .inr (.inr ⟨rfl, rfl⟩)
  · exact .inl ⟨rfl, by omega⟩
theorem new_len (n : Int) : (newS n).length = newN n := by simp [newS]
theorem newN_le (n : Int) : 1 ≤ newN n ∧ newN n ≤ 3 := by rcases newN_cases n with h | h | h <;> omega
theorem none_nth {k i : Nat} (h : i < k) : nthT (List.replicate k noneP) i = noneP := by rw [nthT_eq (by simpa using h)]; simp
theorem none_pts (k : Nat) : pts (List.replicate k noneR) = List.replicate k noneP := by simp [pts, noneR, noneP, PRow.pt, chs]
theorem none_sum (k : Nat) : sumT (List.replicate k noneP) = 0 := by
  induction k with
  | zero => rfl
  | succ k ih => rw [List.replicate_succ, sumT, ih]; rfl
theorem none_fits (k : Nat) : FitsT (List.replicate k noneP) := fun x hx => by
  rw [List.eq_of_mem_replicate hx]
  exact ⟨⟨by decide, by decide⟩, ⟨by decide, by decide⟩, by simp [noneP], fun y hy => by simp [noneP] at hy⟩
theorem PB.new (lo : Nat) {w : World} {M : Nat} (h : Blk w M #[.int .i64 (-1), .int .i64 0, .slice none 0 0] 28) (hl : lo ≤ M) : PB lo w M 1 [noneR] :=
  ⟨hl, ⟨by simp, by simp [maxLen]⟩, ⟨_, h, rfl, fun i hi => by
    have : i = 0 := by simpa using hi
    subst this
    exact ⟨rfl, rfl, rfl⟩⟩, fun x hx => by rw [List.mem_singleton.1 hx]; exact .inl ⟨rfl, rfl, rfl⟩⟩
theorem repl_app (k : Nat) : List.replicate k noneR ++ [noneR] = List.replicate (k + 1) noneR := by rw [List.replicate_succ']

set_option maxHeartbeats 1600000 in
theorem specNew_any (n : Int) (w : World) (hn : I64 n) :
    Calls Try.prog 19 #[.int .i64 n] w fun e w' => (∃ M c, e = .returned (.slice (some ⟨M, 0, none⟩) (newN n) c) ∧ PB w.heap.size w' M c (List.replicate (newN n) noneR)) ∧ Below w.heap.size w w' := by
  obtain ⟨i0, hi, hz0, hz1, hz2⟩ := info_parts infoP
  go_enter Try.func19, Try.ntmps19
  go_wp2
  go_loopw [3] (fun v w' => ∃ (k M c : Nat), v = .slice (some ⟨M, 0, none⟩) k c ∧ 1 ≤ k ∧ k ≤ newN n ∧ PB w.heap.size w' M c (List.replicate k noneR) ∧ Below w.heap.size w w') (fun v _ => 3 - lenV v)
  case atStart => exact ⟨1, w.heap.size, 1, rfl, Nat.le_refl _, (newN_le n).1, PB.new _ (Blk.new _ _ _) (Nat.le_refl _), Go.Joins.below_alloc1 w _⟩
  case round =>
    obtain ⟨k, M, c, rfl, hk1, hk2, hab, hb⟩ := hrel
    have HAB : Hid (PB w.heap.size wr M c (List.replicate k noneR) ∧ Below w.heap.size w wr) := ⟨hab, hb⟩
    have hk3 : k ≤ 3 := by have := (newN_le n).2; omega
    clear hab hb
    by_cases hlt : k < newN n
    · have hlt1 : (k : Int) < n := by rcases newN_cases n with h | h | h <;> omega
      have hlt2 : n ≤ 3 := by rcases newN_cases n with h | h | h <;> omega
      obtain ⟨xs, hox, hxl, hxs⟩ := HAB.out.1.own
      rw [List.length_replicate] at hox hxl
      have HOX : Hid (∀ o1, (wr.alloc o1).ownsRow w.heap.size 28 3 (.slice (some ⟨M, 0, none⟩) k c) k xs) := fun o1 => own_grow hox (Go.Joins.below_alloc1 wr o1)
      have HXS : Hid (xs.length = (List.replicate k noneR).length * 3 ∧ ∀ i, i < (List.replicate k noneR).length → Cel3 (fun k => xs[k]?) i (nthQ (List.replicate k noneR) i)) := ⟨by rw [List.length_replicate]; exact hxl, hxs⟩
      clear hox hxl hxs
      go_wp2_with (at_builtin; refine wpList_append_own_at _ rfl _ _ 40 rfl w.heap.size 28 i0 (.agg #[.int .i64 0, .int .i64 0, .slice none 0 0]) 3 40 Try.underlying40 hi hz0 hz1 hz2 rfl (by decide) _ _ _ rfl (HOX.out _) ⟨wr.heap.size, 0, none⟩ 1 1 (rowP noneR) rfl rfl ?c1 (rowP_one _) ?c3 ?c4 ?c5 ?_)
      case c1 => exact blk_news (Blk.new _ _ _)
      case c3 => unfold maxLen; omega
      case c4 => omega
      case c5 => have := HAB.out.2.size; simp; omega
      intro v' w2 hown hg hnil hat
      have hown' : w2.ownsRow w.heap.size 28 3 v' ((List.replicate k noneR).length + 1) (xs ++ rowP noneR) := by rw [List.length_replicate]; exact hown
      obtain ⟨M3, c3, rfl, hAB3⟩ := (HAB.out.1.grow (Go.Joins.below_alloc1 wr _)).app (x := noneR) (.inl ⟨rfl, rfl, rfl⟩) HXS.out.1 HXS.out.2 hown' hg
      rw [repl_app] at hAB3
      have HAB3 : Hid (PB w.heap.size w2 M3 c3 (List.replicate (k + 1) noneR)) := hAB3
      have HB3 : Hid (Below w.heap.size w w2) := (grow_on HAB.out.2 (Go.Joins.below_alloc1 wr _)).grown hg (by have := HAB.out.2.size; simp; omega) (fun k e => by have h : M = k := Option.some.inj e; have := HAB.out.1.at'; omega)
      clear hown hown' hg hnil hat hAB3
      rw [List.length_replicate]
      go_wp2
      go_roundw
      case rel => exact ⟨k + 1, M3, c3, rfl, by omega, by omega, HAB3.out, HB3.out⟩
      case measure => simp [lenV]; omega
    · have HE : Hid (k = newN n) := by show k = newN n; omega
      have hfin : Hid ((∃ M' c', Ending.returned (.slice (some ⟨M, 0, none⟩) k c) = .returned (.slice (some ⟨M', 0, none⟩) (newN n) c') ∧ PB w.heap.size wr M' c' (List.replicate (newN n) noneR)) ∧ Below w.heap.size w wr) := ⟨⟨M, c, by rw [HE.out], by rw [← HE.out]; exact HAB.out.1⟩, HAB.out.2⟩
      by_cases h1 : (k : Int) < n
      · have h2 : ¬ n ≤ 3 := by rcases newN_cases n with h | h | h <;> omega
        go_wp2
        go_ret
        exact hfin.out
      · go_wp2
        go_ret
        exact hfin.out

theorem letGo_any (A o : Nat) (v : Value) (w : World) (hc : w.cell? ⟨A, o, none⟩ = some v) (hf : w.frozen? ⟨A, o, none⟩ = false) :
    Calls Try.prog 43 #[.pointer (some ⟨A, o, none⟩)] w fun e w' => e = .returned (.tuple #[]) ∧ w' = w.setCell ⟨A, o, none⟩ (.int .i64 (-1)) := by
  go_enter Try.func43, Try.ntmps43
  go_wp2
  go_end0
  exact ⟨rfl, rfl⟩
def hdI (k i : Nat) : Int := if i < k then -1 else 0
def arr3 (k : Nat) : Array Value := #[.int .i64 (hdI k 0), .int .i64 0, .slice none 0 0, .int .i64 (hdI k 1), .int .i64 0, .slice none 0 0, .int .i64 (hdI k 2), .int .i64 0, .slice none 0 0]
theorem arr_rd {w : World} {A : Nat} {T : TypeId} (h : Blk w A (arr3 3) T) {n : Nat} (hn : n ≤ 3) : RdS RdA w (some ⟨A, 0, none⟩) (List.replicate n noneP) := by
  refine .inr ⟨A, 0, rfl, h.lt, fun i hi => ⟨none, 0, ?_⟩⟩
  rw [List.length_replicate] at hi
  rw [none_nth hi]
  have hi3 : i = 0 ∨ i = 1 ∨ i = 2 := by omega
  refine ⟨?_, ?_, ?_, .inl rfl⟩ <;> rw [h.cell] <;> rcases hi3 with rfl | rfl | rfl <;> rfl

theorem arr_0 : (arr3 0).setIfInBounds 0 (.int .i64 (-1)) = arr3 1 := rfl
theorem arr_1 : (arr3 1).setIfInBounds 3 (.int .i64 (-1)) = arr3 2 := rfl
theorem arr_2 : (arr3 2).setIfInBounds 6 (.int .i64 (-1)) = arr3 3 := rfl
set_option maxRecDepth 100000 in
set_option maxHeartbeats 6400000 in
theorem implNew_any (n : Int) (w : World) (hn : I64 n) :
    Calls Try.prog 20 #[.int .i64 n] w fun e w' => (∃ M, e = .returned (.slice (some ⟨M, 0, none⟩) (newN n) (newN n)) ∧ ∃ ps, PB w.heap.size w' M (newN n) ps ∧ pts ps = newS n ∧ Own8 ps) ∧ Below w.heap.size w w' := by
  obtain ⟨N, hN⟩ : ∃ N, newN n = N := ⟨_, rfl⟩
  have hN3 := newN_le n
  rw [hN] at hN3 ⊢
  have HSN : Hid (newS n = List.replicate N noneP) := by show _ = _; unfold newS; rw [hN]
  have hcs : (N = 1 ∧ n < 1) ∨ (N = 1 ∧ 3 < n) ∨ (N = 1 ∧ n = 1) ∨ (N = 2 ∧ n = 2) ∨ (N = 3 ∧ n = 3) := by
    have := newN_cases n
    rw [hN] at this
    omega
  have HCP : Hid (∀ (A : Nat) (T : TypeId) (z : World), Blk z A (arr3 3) T → Calls Try.prog 44 #[.slice (some ⟨A, 0, none⟩) N 3] z fun e w' => e = .returned (.slice (some ⟨z.heap.size, 0, none⟩) N N) ∧ (∃ ps, PB z.heap.size w' z.heap.size N ps ∧ pts ps = newS n ∧ Own8 ps) ∧ Below z.heap.size z w') := fun A T z h => by
    have := copiedParts_any (some ⟨A, 0, none⟩) 3 (List.replicate N noneP) z (arr_rd h hN3.2) (by rw [List.length_replicate]; omega) (by rw [none_sum]; omega)
    rw [List.length_replicate] at this
    rw [HSN.out]; exact this
  clear hN HSN
  rcases hcs with ⟨rfl, hc⟩ | ⟨rfl, hc⟩ | ⟨rfl, rfl⟩ | ⟨rfl, rfl⟩ | ⟨rfl, rfl⟩
  · have hc' : n < 1 := hc
    go_enter Try.func20, Try.ntmps20
    go_wp2
    go_loopw [11] (fun i w' => ∃ k : Nat, i = .int .i64 k ∧ k ≤ 3 ∧ Blk w' w.heap.size (arr3 k) 74 ∧ Below w.heap.size w w') (fun i _ => 3 - (intOf i).toNat)
    case atStart => exact ⟨0, rfl, by omega, Blk.new _ _ _, Go.Joins.below_alloc1 w _⟩
    case round =>
      obtain ⟨k, rfl, hk, hA, hB⟩ := hrel
      have HA : Hid (Below w.heap.size w wr) := hB
      clear hB
      have hk3 : k = 0 ∨ k = 1 ∨ k = 2 ∨ k = 3 := by omega
      rcases hk3 with rfl | rfl | rfl | rfl
      · have HA1 : Hid (Blk wr w.heap.size (arr3 0) 74) := hA
        have c0 : wr.cell? ⟨w.heap.size, 0, none⟩ = some (.int .i64 0) := hA.cell 0
        have f0 := hA.frozen 0
        clear hA hk
        go_wp2_with fail
        refine (letGo_any w.heap.size 0 _ wr c0 f0).mono ?_
        rintro e w1 ⟨rfl, rfl⟩
        have HA2 : Hid (Blk (wr.setCell ⟨w.heap.size, 0, none⟩ (.int .i64 (-1))) w.heap.size (arr3 1) 74) := by have := HA1.out.set 0 (.int .i64 (-1)); rw [arr_0] at this; exact this
        clear c0 f0
        go_wp2
        go_roundw
        case rel => exact ⟨1, rfl, by omega, HA2.out, HA.out.setCell (Nat.le_refl _) _⟩
        case measure => simp [intOf]
      · have HA1 : Hid (Blk wr w.heap.size (arr3 1) 74) := hA
        have c0 : wr.cell? ⟨w.heap.size, 3, none⟩ = some (.int .i64 0) := hA.cell 3
        have f0 := hA.frozen 3
        clear hA hk
        go_wp2_with fail
        refine (letGo_any w.heap.size 3 _ wr c0 f0).mono ?_
        rintro e w1 ⟨rfl, rfl⟩
        have HA2 : Hid (Blk (wr.setCell ⟨w.heap.size, 3, none⟩ (.int .i64 (-1))) w.heap.size (arr3 2) 74) := by have := HA1.out.set 3 (.int .i64 (-1)); rw [arr_1] at this; exact this
        clear c0 f0
        go_wp2
        go_roundw
        case rel => exact ⟨2, rfl, by omega, HA2.out, HA.out.setCell (Nat.le_refl _) _⟩
        case measure => simp [intOf]
      · have HA1 : Hid (Blk wr w.heap.size (arr3 2) 74) := hA
        have c0 : wr.cell? ⟨w.heap.size, 6, none⟩ = some (.int .i64 0) := hA.cell 6
        have f0 := hA.frozen 6
        clear hA hk
        go_wp2_with fail
        refine (letGo_any w.heap.size 6 _ wr c0 f0).mono ?_
        rintro e w1 ⟨rfl, rfl⟩
        have HA2 : Hid (Blk (wr.setCell ⟨w.heap.size, 6, none⟩ (.int .i64 (-1))) w.heap.size (arr3 3) 74) := by have := HA1.out.set 6 (.int .i64 (-1)); rw [arr_2] at this; exact this
        clear c0 f0
        go_wp2
        go_roundw
        case rel => exact ⟨3, rfl, by omega, HA2.out, HA.out.setCell (Nat.le_refl _) _⟩
        case measure => simp [intOf]
      · have HA1 : Hid (Blk wr w.heap.size (arr3 3) 74) := hA
        clear hA hk
        go_wp2_with fail
        refine (HCP.out w.heap.size 74 wr HA1.out).mono ?_
        rintro e w1 ⟨rfl, ⟨ps, h1, h2, h3⟩, hb1⟩
        have HE : Hid ((∃ ps, PB w.heap.size w1 wr.heap.size _ ps ∧ pts ps = _ ∧ Own8 ps) ∧ Below w.heap.size w w1) := ⟨⟨ps, h1.down HA.out.size, h2, h3⟩, grow_on HA.out hb1⟩
        clear h1 h2 h3 hb1
        go_wp2
        go_ret
        exact ⟨⟨wr.heap.size, rfl, HE.out.1⟩, HE.out.2⟩
  · have hc' : ¬ n < 1 := by omega
    have hc2 : 3 < n := hc
    go_enter Try.func20, Try.ntmps20
    go_wp2
    go_loopw [11] (fun i w' => ∃ k : Nat, i = .int .i64 k ∧ k ≤ 3 ∧ Blk w' w.heap.size (arr3 k) 74 ∧ Below w.heap.size w w') (fun i _ => 3 - (intOf i).toNat)
    case atStart => exact ⟨0, rfl, by omega, Blk.new _ _ _, Go.Joins.below_alloc1 w _⟩
    case round =>
      obtain ⟨k, rfl, hk, hA, hB⟩ := hrel
      have HA : Hid (Below w.heap.size w wr) := hB
      clear hB
      have hk3 : k = 0 ∨ k = 1 ∨ k = 2 ∨ k = 3 := by omega
      rcases hk3 with rfl | rfl | rfl | rfl
      · have HA1 : Hid (Blk wr w.heap.size (arr3 0) 74) := hA
        have c0 : wr.cell? ⟨w.heap.size, 0, none⟩ = some (.int .i64 0) := hA.cell 0
        have f0 := hA.frozen 0
        clear hA hk
        go_wp2_with fail
        refine (letGo_any w.heap.size 0 _ wr c0 f0).mono ?_
        rintro e w1 ⟨rfl, rfl⟩
        have HA2 : Hid (Blk (wr.setCell ⟨w.heap.size, 0, none⟩ (.int .i64 (-1))) w.heap.size (arr3 1) 74) := by have := HA1.out.set 0 (.int .i64 (-1)); rw [arr_0] at this; exact this
        clear c0 f0
        go_wp2
        go_roundw
        case rel => exact ⟨1, rfl, by omega, HA2.out, HA.out.setCell (Nat.le_refl _) _⟩
        case measure => simp [intOf]
      · have HA1 : Hid (Blk wr w.heap.size (arr3 1) 74) := hA
        have c0 : wr.cell? ⟨w.heap.size, 3, none⟩ = some (.int .i64 0) := hA.cell 3
        have f0 := hA.frozen 3
        clear hA hk
        go_wp2_with fail
        refine (letGo_any w.heap.size 3 _ wr c0 f0).mono ?_
        rintro e w1 ⟨rfl, rfl⟩
        have HA2 : Hid (Blk (wr.setCell ⟨w.heap.size, 3, none⟩ (.int .i64 (-1))) w.heap.size (arr3 2) 74) := by have := HA1.out.set 3 (.int .i64 (-1)); rw [arr_1] at this; exact this
        clear c0 f0
        go_wp2
        go_roundw
        case rel => exact ⟨2, rfl, by omega, HA2.out, HA.out.setCell (Nat.le_refl _) _⟩
        case measure => simp [intOf]
      · have HA1 : Hid (Blk wr w.heap.size (arr3 2) 74) := hA
        have c0 : wr.cell? ⟨w.heap.size, 6, none⟩ = some (.int .i64 0) := hA.cell 6
        have f0 := hA.frozen 6
        clear hA hk
        go_wp2_with fail
        refine (letGo_any w.heap.size 6 _ wr c0 f0).mono ?_
        rintro e w1 ⟨rfl, rfl⟩
        have HA2 : Hid (Blk (wr.setCell ⟨w.heap.size, 6, none⟩ (.int .i64 (-1))) w.heap.size (arr3 3) 74) := by have := HA1.out.set 6 (.int .i64 (-1)); rw [arr_2] at this; exact this
        clear c0 f0
        go_wp2
        go_roundw
        case rel => exact ⟨3, rfl, by omega, HA2.out, HA.out.setCell (Nat.le_refl _) _⟩
        case measure => simp [intOf]
      · have HA1 : Hid (Blk wr w.heap.size (arr3 3) 74) := hA
        clear hA hk
        go_wp2_with fail
        refine (HCP.out w.heap.size 74 wr HA1.out).mono ?_
        rintro e w1 ⟨rfl, ⟨ps, h1, h2, h3⟩, hb1⟩
        have HE : Hid ((∃ ps, PB w.heap.size w1 wr.heap.size _ ps ∧ pts ps = _ ∧ Own8 ps) ∧ Below w.heap.size w w1) := ⟨⟨ps, h1.down HA.out.size, h2, h3⟩, grow_on HA.out hb1⟩
        clear h1 h2 h3 hb1
        go_wp2
        go_ret
        exact ⟨⟨wr.heap.size, rfl, HE.out.1⟩, HE.out.2⟩
  · go_enter Try.func20, Try.ntmps20
    go_wp2
    go_loopw [11] (fun i w' => ∃ k : Nat, i = .int .i64 k ∧ k ≤ 3 ∧ Blk w' w.heap.size (arr3 k) 74 ∧ Below w.heap.size w w') (fun i _ => 3 - (intOf i).toNat)
    case atStart => exact ⟨0, rfl, by omega, Blk.new _ _ _, Go.Joins.below_alloc1 w _⟩
    case round =>
      obtain ⟨k, rfl, hk, hA, hB⟩ := hrel
      have HA : Hid (Below w.heap.size w wr) := hB
      clear hB
      have hk3 : k = 0 ∨ k = 1 ∨ k = 2 ∨ k = 3 := by omega
      rcases hk3 with rfl | rfl | rfl | rfl
      · have HA1 : Hid (Blk wr w.heap.size (arr3 0) 74) := hA
        have c0 : wr.cell? ⟨w.heap.size, 0, none⟩ = some (.int .i64 0) := hA.cell 0
        have f0 := hA.frozen 0
        clear hA hk
        go_wp2_with fail
        refine (letGo_any w.heap.size 0 _ wr c0 f0).mono ?_
        rintro e w1 ⟨rfl, rfl⟩
        have HA2 : Hid (Blk (wr.setCell ⟨w.heap.size, 0, none⟩ (.int .i64 (-1))) w.heap.size (arr3 1) 74) := by have := HA1.out.set 0 (.int .i64 (-1)); rw [arr_0] at this; exact this
        clear c0 f0
        go_wp2
        go_roundw
        case rel => exact ⟨1, rfl, by omega, HA2.out, HA.out.setCell (Nat.le_refl _) _⟩
        case measure => simp [intOf]
      · have HA1 : Hid (Blk wr w.heap.size (arr3 1) 74) := hA
        have c0 : wr.cell? ⟨w.heap.size, 3, none⟩ = some (.int .i64 0) := hA.cell 3
        have f0 := hA.frozen 3
        clear hA hk
        go_wp2_with fail
        refine (letGo_any w.heap.size 3 _ wr c0 f0).mono ?_
        rintro e w1 ⟨rfl, rfl⟩
        have HA2 : Hid (Blk (wr.setCell ⟨w.heap.size, 3, none⟩ (.int .i64 (-1))) w.heap.size (arr3 2) 74) := by have := HA1.out.set 3 (.int .i64 (-1)); rw [arr_1] at this; exact this
        clear c0 f0
        go_wp2
        go_roundw
        case rel => exact ⟨2, rfl, by omega, HA2.out, HA.out.setCell (Nat.le_refl _) _⟩
        case measure => simp [intOf]
      · have HA1 : Hid (Blk wr w.heap.size (arr3 2) 74) := hA
        have c0 : wr.cell? ⟨w.heap.size, 6, none⟩ = some (.int .i64 0) := hA.cell 6
        have f0 := hA.frozen 6
        clear hA hk
        go_wp2_with fail
        refine (letGo_any w.heap.size 6 _ wr c0 f0).mono ?_
        rintro e w1 ⟨rfl, rfl⟩
        have HA2 : Hid (Blk (wr.setCell ⟨w.heap.size, 6, none⟩ (.int .i64 (-1))) w.heap.size (arr3 3) 74) := by have := HA1.out.set 6 (.int .i64 (-1)); rw [arr_2] at this; exact this
        clear c0 f0
        go_wp2
        go_roundw
        case rel => exact ⟨3, rfl, by omega, HA2.out, HA.out.setCell (Nat.le_refl _) _⟩
        case measure => simp [intOf]
      · have HA1 : Hid (Blk wr w.heap.size (arr3 3) 74) := hA
        clear hA hk
        go_wp2_with fail
        refine (HCP.out w.heap.size 74 wr HA1.out).mono ?_
        rintro e w1 ⟨rfl, ⟨ps, h1, h2, h3⟩, hb1⟩
        have HE : Hid ((∃ ps, PB w.heap.size w1 wr.heap.size _ ps ∧ pts ps = _ ∧ Own8 ps) ∧ Below w.heap.size w w1) := ⟨⟨ps, h1.down HA.out.size, h2, h3⟩, grow_on HA.out hb1⟩
        clear h1 h2 h3 hb1
        go_wp2
        go_ret
        exact ⟨⟨wr.heap.size, rfl, HE.out.1⟩, HE.out.2⟩
  · go_enter Try.func20, Try.ntmps20
    go_wp2
    go_loopw [11] (fun i w' => ∃ k : Nat, i = .int .i64 k ∧ k ≤ 3 ∧ Blk w' w.heap.size (arr3 k) 74 ∧ Below w.heap.size w w') (fun i _ => 3 - (intOf i).toNat)
    case atStart => exact ⟨0, rfl, by omega, Blk.new _ _ _, Go.Joins.below_alloc1 w _⟩
    case round =>
      obtain ⟨k, rfl, hk, hA, hB⟩ := hrel
      have HA : Hid (Below w.heap.size w wr) := hB
      clear hB
      have hk3 : k = 0 ∨ k = 1 ∨ k = 2 ∨ k = 3 := by omega
      rcases hk3 with rfl | rfl | rfl | rfl
      · have HA1 : Hid (Blk wr w.heap.size (arr3 0) 74) := hA
        have c0 : wr.cell? ⟨w.heap.size, 0, none⟩ = some (.int .i64 0) := hA.cell 0
        have f0 := hA.frozen 0
        clear hA hk
        go_wp2_with fail
        refine (letGo_any w.heap.size 0 _ wr c0 f0).mono ?_
        rintro e w1 ⟨rfl, rfl⟩
        have HA2 : Hid (Blk (wr.setCell ⟨w.heap.size, 0, none⟩ (.int .i64 (-1))) w.heap.size (arr3 1) 74) := by have := HA1.out.set 0 (.int .i64 (-1)); rw [arr_0] at this; exact this
        clear c0 f0
        go_wp2
        go_roundw
        case rel => exact ⟨1, rfl, by omega, HA2.out, HA.out.setCell (Nat.le_refl _) _⟩
        case measure => simp [intOf]
      · have HA1 : Hid (Blk wr w.heap.size (arr3 1) 74) := hA
        have c0 : wr.cell? ⟨w.heap.size, 3, none⟩ = some (.int .i64 0) := hA.cell 3
        have f0 := hA.frozen 3
        clear hA hk
        go_wp2_with fail
        refine (letGo_any w.heap.size 3 _ wr c0 f0).mono ?_
        rintro e w1 ⟨rfl, rfl⟩
        have HA2 : Hid (Blk (wr.setCell ⟨w.heap.size, 3, none⟩ (.int .i64 (-1))) w.heap.size (arr3 2) 74) := by have := HA1.out.set 3 (.int .i64 (-1)); rw [arr_1] at this; exact this
        clear c0 f0
        go_wp2
        go_roundw
        case rel => exact ⟨2, rfl, by omega, HA2.out, HA.out.setCell (Nat.le_refl _) _⟩
        case measure => simp [intOf]
      · have HA1 : Hid (Blk wr w.heap.size (arr3 2) 74) := hA
        have c0 : wr.cell? ⟨w.heap.size, 6, none⟩ = some (.int .i64 0) := hA.cell 6
        have f0 := hA.frozen 6
        clear hA hk
        go_wp2_with fail
        refine (letGo_any w.heap.size 6 _ wr c0 f0).mono ?_
        rintro e w1 ⟨rfl, rfl⟩
        have HA2 : Hid (Blk (wr.setCell ⟨w.heap.size, 6, none⟩ (.int .i64 (-1))) w.heap.size (arr3 3) 74) := by have := HA1.out.set 6 (.int .i64 (-1)); rw [arr_2] at this; exact this
        clear c0 f0
        go_wp2
        go_roundw
        case rel => exact ⟨3, rfl, by omega, HA2.out, HA.out.setCell (Nat.le_refl _) _⟩
        case measure => simp [intOf]
      · have HA1 : Hid (Blk wr w.heap.size (arr3 3) 74) := hA
        clear hA hk
        go_wp2_with fail
        refine (HCP.out w.heap.size 74 wr HA1.out).mono ?_
        rintro e w1 ⟨rfl, ⟨ps, h1, h2, h3⟩, hb1⟩
        have HE : Hid ((∃ ps, PB w.heap.size w1 wr.heap.size _ ps ∧ pts ps = _ ∧ Own8 ps) ∧ Below w.heap.size w w1) := ⟨⟨ps, h1.down HA.out.size, h2, h3⟩, grow_on HA.out hb1⟩
        clear h1 h2 h3 hb1
        go_wp2
        go_ret
        exact ⟨⟨wr.heap.size, rfl, HE.out.1⟩, HE.out.2⟩
  · go_enter Try.func20, Try.ntmps20
    go_wp2
    go_loopw [11] (fun i w' => ∃ k : Nat, i = .int .i64 k ∧ k ≤ 3 ∧ Blk w' w.heap.size (arr3 k) 74 ∧ Below w.heap.size w w') (fun i _ => 3 - (intOf i).toNat)
    case atStart => exact ⟨0, rfl, by omega, Blk.new _ _ _, Go.Joins.below_alloc1 w _⟩
    case round =>
      obtain ⟨k, rfl, hk, hA, hB⟩ := hrel
      have HA : Hid (Below w.heap.size w wr) := hB
      clear hB
      have hk3 : k = 0 ∨ k = 1 ∨ k = 2 ∨ k = 3 := by omega
      rcases hk3 with rfl | rfl | rfl | rfl
      · have HA1 : Hid (Blk wr w.heap.size (arr3 0) 74) := hA
        have c0 : wr.cell? ⟨w.heap.size, 0, none⟩ = some (.int .i64 0) := hA.cell 0
        have f0 := hA.frozen 0
        clear hA hk
        go_wp2_with fail
        refine (letGo_any w.heap.size 0 _ wr c0 f0).mono ?_
        rintro e w1 ⟨rfl, rfl⟩
        have HA2 : Hid (Blk (wr.setCell ⟨w.heap.size, 0, none⟩ (.int .i64 (-1))) w.heap.size (arr3 1) 74) := by have := HA1.out.set 0 (.int .i64 (-1)); rw [arr_0] at this; exact this
        clear c0 f0
        go_wp2
        go_roundw
        case rel => exact ⟨1, rfl, by omega, HA2.out, HA.out.setCell (Nat.le_refl _) _⟩
        case measure => simp [intOf]
      · have HA1 : Hid (Blk wr w.heap.size (arr3 1) 74) := hA
        have c0 : wr.cell? ⟨w.heap.size, 3, none⟩ = some (.int .i64 0) := hA.cell 3
        have f0 := hA.frozen 3
        clear hA hk
        go_wp2_with fail
        refine (letGo_any w.heap.size 3 _ wr c0 f0).mono ?_
        rintro e w1 ⟨rfl, rfl⟩
        have HA2 : Hid (Blk (wr.setCell ⟨w.heap.size, 3, none⟩ (.int .i64 (-1))) w.heap.size (arr3 2) 74) := by have := HA1.out.set 3 (.int .i64 (-1)); rw [arr_1] at this; exact this
        clear c0 f0
        go_wp2
        go_roundw
        case rel => exact ⟨2, rfl, by omega, HA2.out, HA.out.setCell (Nat.le_refl _) _⟩
        case measure => simp [intOf]
      · have HA1 : Hid (Blk wr w.heap.size (arr3 2) 74) := hA
        have c0 : wr.cell? ⟨w.heap.size, 6, none⟩ = some (.int .i64 0) := hA.cell 6
        have f0 := hA.frozen 6
        clear hA hk
        go_wp2_with fail
        refine (letGo_any w.heap.size 6 _ wr c0 f0).mono ?_
        rintro e w1 ⟨rfl, rfl⟩
        have HA2 : Hid (Blk (wr.setCell ⟨w.heap.size, 6, none⟩ (.int .i64 (-1))) w.heap.size (arr3 3) 74) := by have := HA1.out.set 6 (.int .i64 (-1)); rw [arr_2] at this; exact this
        clear c0 f0
        go_wp2
        go_roundw
        case rel => exact ⟨3, rfl, by omega, HA2.out, HA.out.setCell (Nat.le_refl _) _⟩
        case measure => simp [intOf]
      · have HA1 : Hid (Blk wr w.heap.size (arr3 3) 74) := hA
        clear hA hk
        go_wp2_with fail
        refine (HCP.out w.heap.size 74 wr HA1.out).mono ?_
        rintro e w1 ⟨rfl, ⟨ps, h1, h2, h3⟩, hb1⟩
        have HE : Hid ((∃ ps, PB w.heap.size w1 wr.heap.size _ ps ∧ pts ps = _ ∧ Own8 ps) ∧ Below w.heap.size w w1) := ⟨⟨ps, h1.down HA.out.size, h2, h3⟩, grow_on HA.out hb1⟩
        clear h1 h2 h3 hb1
        go_wp2
        go_ret
        exact ⟨⟨wr.heap.size, rfl, HE.out.1⟩, HE.out.2⟩
end Go.Proofs.Ytcopckbpflmmeab.StsN
