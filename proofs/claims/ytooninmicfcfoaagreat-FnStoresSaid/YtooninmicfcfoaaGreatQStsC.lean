/-
  PROVED: impl.copiedPart, impl.copiedParts and spec.l8Copy give the same parts in memory of their own; nothing that was there is changed.
-/
import Derived.Test.YtooninmicfcfoaaGreatQSts
import Derived.Test.YtooninmicfcfoaaGreatQPrtC
import Derived.Deep.CutRange
import Derived.Deep.RegionHeld3
set_option linter.unusedVariables false
namespace Go.Proofs.YtooninmicfcfoaaGreat.StsC
open Go.RowKit
open Labs LabS Alms AlmS AlmM Over Blk App Rws ChnI ChnC ChnP ChnK Chs Prt PrtM Sts
theorem bel_box {w w' : World} {o : Obj} (h : Below (w.alloc o).heap.size (w.alloc o) w') : Below w.heap.size w w' := grow_on (Go.Joins.below_alloc1 w o) h
theorem bel_alloc {z w : World} (h : Below z.heap.size z w) (o : Obj) : Below z.heap.size z (w.alloc o) := h.alloc h.size o
set_option maxRecDepth 100000 in
set_option maxHeartbeats 3200000 in
theorem copiedPart_any (hd vr : Int) (a : Option Addr) (cap : Nat) (C : List PCh) (w : World) (hr : RdG RdA w a C) (hl : C.length ≤ 1048576) (hs : sumC C ≤ 1048576) :
    Calls Tryz.prog 139 #[.agg #[.int .i64 hd, .int .i64 vr, .slice a C.length cap]] w fun r w' => (∃ M cs, r = .returned (.agg #[.int .i64 hd, .int .i64 vr, .slice (some ⟨M, 0, none⟩) C.length C.length]) ∧ CB w.heap.size w' M C.length cs ∧ chs cs = C) ∧ Below w.heap.size w w' := by
  have HR : Hid (RdG RdA w a C ∧ sumC C ≤ 1048576) := ⟨hr, hs⟩
  clear hr hs
  have hmk := make_k (P := Tryz.prog) 24 96 (.agg #[.int .i64 0, .slice none 0 0]) 2 32 Tryz.underlying24 infoC .i64 .i64 C.length (by omega) (by omega)
  go_enter Tryz.func139, Tryz.ntmps139
  go_upto_region 1 with fail
  go_cut [3] from 6 to 14 (fun s3 wx => ∃ (N M : Nat), s3 = .pointer (some ⟨N, 0, none⟩) ∧ Blk wx N #[.int .i64 hd, .int .i64 vr, .slice (some ⟨M, 0, none⟩) C.length C.length] 26 ∧ Blk wx M (madeCells (Value.agg #[.int .i64 0, .slice none 0 0]).cells (C.length * 2)) 96 ∧ (w.heap.size + 2 ≤ N ∧ w.heap.size + 2 ≤ M) ∧ Blk wx w.heap.size #[.int .i64 hd, .int .i64 vr, .slice a C.length cap] 26 ∧ Blk wx (w.heap.size + 1) #[.int .i64 0, .int .i64 0, .slice none 0 0] 26 ∧ Below w.heap.size w wx)
  case first =>
    go_region
    all_goals (go_wp2_with fail)
    all_goals go_meet
    · exact ⟨_, w.heap.size + 1 + 1, rfl, (Blk.new_at (by simp)).drew, ((Blk.new_at (by simp)).alloc _).drew, ⟨by omega, by omega⟩, ((((Blk.new _ _ _).alloc _).alloc _).alloc _).drew, (((Blk.new_at (by simp)).alloc _).alloc _).drew, (((Alm.below3 w _ _ _).alloc (by simp; omega) _)).drew⟩
    · exact ⟨_, w.heap.size + 1 + 1 + 1, rfl, ((Blk.new_at (by simp)).alloc _).drew, (Blk.new_at (by simp)).drew, ⟨by omega, by omega⟩, ((((Blk.new _ _ _).alloc _).alloc _).alloc _).drew, (((Blk.new_at (by simp)).alloc _).alloc _).drew, (((Alm.below3 w _ _ _).alloc (by simp; omega) _)).drew⟩
  case rest =>
    obtain ⟨N, M, rfl, hN, hM, hNM, hC, hR, hB⟩ := hcut
    obtain ⟨w1, hwc⟩ : ∃ x, x = wc := ⟨_, rfl⟩
    subst hwc
    have c2 : w1.cell? ⟨w.heap.size, 2, none⟩ = some (.slice a C.length cap) := hC.cell 2
    have H0 : Hid (Blk w1 N #[.int .i64 hd, .int .i64 vr, .slice (some ⟨M, 0, none⟩) C.length C.length] 26 ∧ Blk w1 w.heap.size #[.int .i64 hd, .int .i64 vr, .slice a C.length cap] 26 ∧ Blk w1 (w.heap.size + 1) #[.int .i64 0, .int .i64 0, .slice none 0 0] 26 ∧ Below w.heap.size w w1) := ⟨hN, hC, hR, hB⟩
    have HM0 : Hid (Blk w1 M (madeCells (Value.agg #[.int .i64 0, .slice none 0 0]).cells (C.length * 2)) 96) := hM
    clear hN hC hR hB hM hmk
    go_wp2
    go_loopw [18] (fun i w' => ∃ (k : Nat) (cur : Array Value) (cs : List CRow), k ≤ C.length ∧ i = .int .i64 k ∧ FillC (w.heap.size + 2) w' M C k cur cs ∧ Blk w' N #[.int .i64 hd, .int .i64 vr, .slice (some ⟨M, 0, none⟩) C.length C.length] 26 ∧ Blk w' w.heap.size #[.int .i64 hd, .int .i64 vr, .slice a C.length cap] 26 ∧ Blk w' (w.heap.size + 1) #[.int .i64 0, .int .i64 0, .slice none 0 0] 26 ∧ Below w.heap.size w w' ∧ w.heap.size + 2 ≤ w'.heap.size) (fun i _ => C.length - (intOf i).toNat)
    case atStart => exact ⟨0, _, [], Nat.zero_le _, rfl, ⟨HM0.out, by simp [size_madeCells], rfl, rfl, fun i h => by omega, RowsC.nil _ _⟩, H0.out.1, H0.out.2.1, H0.out.2.2.1, H0.out.2.2.2, by have := H0.out.2.2.1.lt; omega⟩
    case round =>
      clear H0 HM0 c2
      obtain ⟨k, cur, cs, hk, rfl, hF, hN, hC, hR, hB, hwz⟩ := hrel
      have HF : Hid (FillC (w.heap.size + 2) wr M C k cur cs) := hF
      have H1 : Hid (Blk wr N #[.int .i64 hd, .int .i64 vr, .slice (some ⟨M, 0, none⟩) C.length C.length] 26 ∧ Blk wr w.heap.size #[.int .i64 hd, .int .i64 vr, .slice a C.length cap] 26 ∧ Blk wr (w.heap.size + 1) #[.int .i64 0, .int .i64 0, .slice none 0 0] 26 ∧ Below w.heap.size w wr) := ⟨hN, hC, hR, hB⟩
      clear hF hN hC hR hB
      by_cases hlt : k < C.length
      · have hlt' : (k : Int) < (C.length : Int) := by omega
        obtain ⟨b, off, ea, hb, ad, cp, hat⟩ := (HR.out.1.below stays_rd H1.out.2.2.2).get hlt
        cases ea
        have h2 := hat.c0
        have h3 := hat.c1
        have HA : Hid (RdA wr ad (nthC C k).P) := hat.reads
        have HS1 : Hid ((nthC C k).P.length ≤ 1048576 ∧ LenM (nthC C k).P) := by have h0 := sumC_nth hlt; have h1 := HR.out.2; exact ⟨by omega, lenM_of (by omega)⟩
        clear hat
        go_upto_region 5 with fail
        obtain ⟨W4, hW4⟩ : ∃ W4, wr.alloc (.cells #[.int .i64 (nthC C k).f, .slice ad (nthC C k).P.length cp] 96) = W4 := ⟨_, rfl⟩
        have H4 : Hid (Blk W4 wr.heap.size #[.int .i64 (nthC C k).f, .slice ad (nthC C k).P.length cp] 96 ∧ Below wr.heap.size wr W4) := by
          rw [← hW4]
          exact ⟨Blk.new _ _ _, Go.Joins.below_alloc1 wr _⟩
        rw [hW4]
        clear hW4 h2 h3
        have HF4 : Hid (FillC (w.heap.size + 2) W4 M C k cur cs) := HF.out.grow H4.out.2
        have HN4 : Hid (Blk W4 N #[.int .i64 hd, .int .i64 vr, .slice (some ⟨M, 0, none⟩) C.length C.length] 26) := H1.out.1.grow H4.out.2
        have HCL : Hid (∀ z, Below W4.heap.size W4 z → Calls Tryz.prog 94 #[.agg #[.int .i64 (nthC C k).f, .slice ad (nthC C k).P.length cp]] z fun e w' => (∃ M rs, e = .returned (.agg #[.int .i64 (nthC C k).f, .slice (some ⟨M, 0, none⟩) (nthC C k).P.length (nthC C k).P.length]) ∧ AB z.heap.size w' M (nthC C k).P.length rs ∧ pals rs = (nthC C k).P) ∧ Below z.heap.size z w') := fun z hz => implCopy_any _ ad cp _ z (HA.out.below (grow_on H4.out.2 hz)) HS1.out.1 HS1.out.2
        have HS : Hid (∀ w', Blk w' N #[.int .i64 hd, .int .i64 vr, .slice (some ⟨M, 0, none⟩) C.length C.length] 26 → Blk w' wr.heap.size #[.int .i64 (nthC C k).f, .slice ad (nthC C k).P.length cp] 96 → w'.cell? ⟨N, 2, none⟩ = some (.slice (some ⟨M, 0, none⟩) C.length C.length) ∧ w'.cell? ⟨wr.heap.size, 0, none⟩ = some (.int .i64 (nthC C k).f) ∧ w'.cell? ⟨wr.heap.size, 1, none⟩ = some (.slice ad (nthC C k).P.length cp)) := fun w' h k => ⟨h.cell 2, k.cell 0, k.cell 1⟩
        refine wp_region_held_drew (S := fun w' => w'.cell? ⟨N, 2, none⟩ = some (.slice (some ⟨M, 0, none⟩) C.length C.length) ∧ w'.cell? ⟨wr.heap.size, 0, none⟩ = some (.int .i64 (nthC C k).f) ∧ w'.cell? ⟨wr.heap.size, 1, none⟩ = some (.slice ad (nthC C k).P.length cp)) (by kernel_rfl) (HS.out _ HN4.out.drew H4.out.1.drew) (fun hHeld => ?_)
        refine wpAnyH_take (i := 0) (oi := { dst := some 23, op := Op.fieldAddr 26 (Operand.tmp 3) 2, type := 0, pos := "l07_part.go:34", after := #[], guard := none }) (v := ?vc1) rfl (by kernel_rfl) (by kernel_rfl) (by kernel_rfl) (fun _ _ _ h => h) (Or.inl ⟨by rfl, ?hyc1⟩) hHeld ?_
        case hyc1 => (intro w hSw; (try dsimp only at hSw); go_simp <;> with_reducible rfl)
        try simp only [Act.put, List.setIfInBounds_toArray, List.set_cons_zero, List.set_cons_succ]
        refine wpAnyH_take (i := 1) (oi := { dst := some 24, op := Op.load 24 (Operand.tmp 23), type := 24, pos := "l07_part.go:34", after := #[{ on := 0, ground := Ground.data }], guard := none }) (v := ?vc2) rfl (by kernel_rfl) (by kernel_rfl) (by kernel_rfl) (fun _ _ _ h => h) (Or.inl ⟨by rfl, ?hyc2⟩) hHeld ?_
        case hyc2 => (intro w hSw; (try dsimp only at hSw); go_simp <;> with_reducible rfl)
        try simp only [Act.put, List.setIfInBounds_toArray, List.set_cons_zero, List.set_cons_succ]
        refine wpAnyH_take (i := 2) (oi := { dst := some 25, op := Op.move (Operand.tmp 4), type := 3, pos := "l07_part.go:34", after := #[], guard := none }) (v := ?vc3) rfl (by kernel_rfl) (by kernel_rfl) (by kernel_rfl) (fun _ _ _ h => h) (Or.inl ⟨by rfl, ?hyc3⟩) hHeld ?_
        case hyc3 => (intro w hSw; (try dsimp only at hSw); go_simp <;> with_reducible rfl)
        try simp only [Act.put, List.setIfInBounds_toArray, List.set_cons_zero, List.set_cons_succ]
        refine wpAnyH_take (i := 3) (oi := { dst := some 26, op := Op.load 96 (Operand.tmp 5), type := 96, pos := "l07_part.go:34", after := #[], guard := none }) (v := ?vc4) rfl (by kernel_rfl) (by kernel_rfl) (by kernel_rfl) (fun _ _ _ h => h) (Or.inl ⟨by rfl, ?hyc4⟩) hHeld ?_
        case hyc4 => (intro w hSw; (try dsimp only at hSw); go_simp <;> with_reducible rfl)
        try simp only [Act.put, List.setIfInBounds_toArray, List.set_cons_zero, List.set_cons_succ]
        refine wpAnyH_ready (rs := [4]) (by kernel_rfl) (by simp) ?_
        refine AllReadyH.cons (o := { dst := some 27, op := Op.call { callee := Callee.value (Operand.func 94), args := #[Operand.tmp 26], argTypes := #[96] }, type := 96, pos := "l07_part.go:34", after := #[{ on := 3, ground := Ground.data }], guard := none }) rfl (fun K hK => ?_) AllReadyH.nil
        go_simp
        refine (HCL.out _ (Below.refl _ _).drew).mono ?_
        rintro r w5 ⟨⟨M1, rs, rfl, hab, hp⟩, hb5⟩
        replace hb5 : Below W4.heap.size W4 w5 := grow_on (Below.refl _ _).drew hb5
        have HAB : Hid (AB W4.heap.size w5 M1 (nthC C k).P.length rs ∧ pals rs = (nthC C k).P) := ⟨hab.down (Nat.le_refl _), hp⟩
        have HB5 : Hid (Below W4.heap.size W4 w5) := hb5
        clear hab hp hb5 hHeld
        refine hK.out _ _ (HS.out _ (HN4.out.grow HB5.out) (H4.out.1.grow HB5.out)) (fun hHeld => ?_)
        clear hK K
        try simp only [Act.put, List.setIfInBounds_toArray, List.set_cons_zero, List.set_cons_succ]
        refine wpAnyH_take (i := 5) (oi := { dst := some 28, op := Op.indexAddr 24 (Operand.tmp 24) (Operand.tmp 25), type := 0, pos := "l07_part.go:34", after := #[{ on := 1, ground := Ground.data }, { on := 2, ground := Ground.data }, { on := 0, ground := Ground.phase }, { on := 1, ground := Ground.phase }, { on := 2, ground := Ground.phase }, { on := 3, ground := Ground.phase }, { on := 4, ground := Ground.phase }], guard := none }) (v := ?vc6) rfl (by kernel_rfl) (by kernel_rfl) (by kernel_rfl) (fun _ _ _ h => h) (Or.inl ⟨by rfl, ?hyc6⟩) hHeld ?_
        case hyc6 => (intro w hSw; (try dsimp only at hSw); go_simp <;> with_reducible rfl)
        try simp only [Act.put, List.setIfInBounds_toArray, List.set_cons_zero, List.set_cons_succ]
        refine wpAnyH_ready (rs := [6]) (by kernel_rfl) (by simp) ?_
        refine AllReadyH.cons (o := { dst := none, op := Op.store 96 (Operand.tmp 28) (Operand.tmp 27), type := 0, pos := "l07_part.go:34", after := #[{ on := 5, ground := Ground.data }, { on := 4, ground := Ground.data }, { on := 4, ground := Ground.chain }, { on := 0, ground := Ground.phase }, { on := 1, ground := Ground.phase }, { on := 2, ground := Ground.phase }, { on := 3, ground := Ground.phase }, { on := 4, ground := Ground.phase }], guard := none }) rfl (fun K hK => ?_) AllReadyH.nil
        have hF5 : FillC (w.heap.size + 2) w5 M C k cur cs := HF4.out.grow HB5.out
        have hrl : rs.length = (nthC C k).P.length := by rw [← pals_len, HAB.out.2]
        have HN5 := hF5.next (x := ⟨(nthC C k).f, M1, (nthC C k).P.length, rs⟩) hlt (HAB.out.1.down (by have := H4.out.2.size; omega)) (by unfold CRow.ch; rw [HAB.out.2]) (HF4.out.rows.fresh (x := ⟨(nthC C k).f, M1, (nthC C k).P.length, rs⟩) HAB.out.1 (Nat.le_refl _))
        unfold put2W put2C at HN5
        rw [hrl] at HN5
        have HC5 : Hid _ := HN5
        have hsz := hF5.size
        obtain ⟨v0, q0⟩ : ∃ v, w5.cell? ⟨M, k * 2, none⟩ = some v := ⟨cur[k * 2]'(by omega), by rw [hF5.blk.cell]; simp⟩
        obtain ⟨v1, q1⟩ : ∃ v, w5.cell? ⟨M, k * 2 + 1, none⟩ = some v := ⟨cur[k * 2 + 1]'(by omega), by rw [hF5.blk.cell]; simp⟩
        have f0 := hF5.blk.frozen (k * 2)
        have f1 := hF5.blk.frozen (k * 2 + 1)
        have hMr : M ≠ wr.heap.size := by have := HF.out.blk.lt; omega
        have hMN : M ≠ N := blkT_ne hF5.blk (HN4.out.grow HB5.out) (by decide)
        have kN : ∀ u0 u1, Blk ((w5.setCell ⟨M, k * 2, none⟩ u0).setCell ⟨M, k * 2 + 1, none⟩ u1) N #[.int .i64 hd, .int .i64 vr, .slice (some ⟨M, 0, none⟩) C.length C.length] 26 := fun u0 u1 => ((HN4.out.grow HB5.out).set_other hMN u0).set_other hMN u1
        have kX : ∀ u0 u1, Blk ((w5.setCell ⟨M, k * 2, none⟩ u0).setCell ⟨M, k * 2 + 1, none⟩ u1) wr.heap.size #[.int .i64 (nthC C k).f, .slice ad (nthC C k).P.length cp] 96 := fun u0 u1 => ((H4.out.1.grow HB5.out).set_other hMr u0).set_other hMr u1
        have HKN : Hid (∀ u0 u1, Blk ((w5.setCell ⟨M, k * 2, none⟩ u0).setCell ⟨M, k * 2 + 1, none⟩ u1) N #[.int .i64 hd, .int .i64 vr, .slice (some ⟨M, 0, none⟩) C.length C.length] 26) := kN
        clear hF5 hsz HN5 hrl
        go_simp
        clear q0 q1 f0 f1 hHeld
        refine hK.out _ _ (HS.out _ (kN _ _) (kX _ _)) (fun hHeld => ?_)
        clear hK K kN kX
        try simp only [Act.put, List.setIfInBounds_toArray, List.set_cons_zero, List.set_cons_succ]
        refine wpAnyH_done (by kernel_rfl) ?_ _
        have HB6 : Hid (Below w.heap.size w w5) := grow_on (grow_on H1.out.2.2.2 H4.out.2) HB5.out
        have HP6 : Hid (Blk w5 w.heap.size #[.int .i64 hd, .int .i64 vr, .slice (some ⟨b, off, none⟩) C.length cap] 26 ∧ Blk w5 (w.heap.size + 1) #[.int .i64 0, .int .i64 0, .slice none 0 0] 26 ∧ M ≠ w.heap.size ∧ M ≠ w.heap.size + 1 ∧ w.heap.size + 2 ≤ w5.heap.size ∧ w.heap.size ≤ M) := ⟨(H1.out.2.1.grow H4.out.2).grow HB5.out, (H1.out.2.2.1.grow H4.out.2).grow HB5.out, by omega, by omega, by have := H4.out.2.size; have := HB5.out.size; omega, by omega⟩
        clear hHeld
        go_wp2
        go_roundw
        case rel => exact ⟨k + 1, _, _, by omega, by go_num, HC5.out, HKN.out _ _, (HP6.out.1.set_other HP6.out.2.2.1 _).set_other HP6.out.2.2.1 _, (HP6.out.2.1.set_other HP6.out.2.2.2.1 _).set_other HP6.out.2.2.2.1 _, (HB6.out.setCell HP6.out.2.2.2.2.2 _).setCell HP6.out.2.2.2.2.2 _, by rw [size_setCell, size_setCell]; exact HP6.out.2.2.2.2.1⟩
        case measure => simp [intOf]; omega
      have hge : ¬ (k : Int) < (C.length : Int) := by omega
      have HE : Hid (k = C.length) := by show k = C.length; omega
      have hN := H1.out.1
      have hR := H1.out.2.2.1
      have o0 : wr.cell? ⟨N, 0, none⟩ = some (.int .i64 hd) := hN.cell 0
      have o1 : wr.cell? ⟨N, 1, none⟩ = some (.int .i64 vr) := hN.cell 1
      have o2 : wr.cell? ⟨N, 2, none⟩ = some (.slice (some ⟨M, 0, none⟩) C.length C.length) := hN.cell 2
      have r0 : wr.cell? ⟨w.heap.size + 1, 0, none⟩ = some (.int .i64 0) := hR.cell 0
      have r1 : wr.cell? ⟨w.heap.size + 1, 1, none⟩ = some (.int .i64 0) := hR.cell 1
      have r2 : wr.cell? ⟨w.heap.size + 1, 2, none⟩ = some (.slice none 0 0) := hR.cell 2
      have f0 := hR.frozen 0
      have f1 := hR.frozen 1
      have f2 := hR.frozen 2
      clear hN hR
      go_wp2
      have hs := put3 H1.out.2.2.1 (.int .i64 hd) (.int .i64 vr) (.slice (some ⟨M, 0, none⟩) C.length C.length)
      have s0 := hs.cell 0
      have s1 := hs.cell 1
      have s2 := hs.cell 2
      refine bodyPost_ret (v := .agg #[.int .i64 hd, .int .i64 vr, .slice (some ⟨M, 0, none⟩) C.length C.length]) (by simp [results, Tryz.results139, go_sem, s0, s1, s2]) rfl ?_
      have hF := HF.out
      rw [HE.out] at hF
      have hcb := hF.cb hNM.2 hl
      have hfin : CB w.heap.size _ M C.length cs ∧ chs cs = C := ⟨(CB.set3 hcb.1 H1.out.2.2.1 (.int .i64 hd) (.int .i64 vr) (.slice (some ⟨M, 0, none⟩) C.length C.length)).down (by omega), hcb.2⟩
      first | exact ⟨⟨M, cs, rfl, hfin.1, hfin.2⟩, set3 H1.out.2.2.2 (by omega) _ _ _⟩ | exact ⟨⟨M, rfl, cs, hfin.1, hfin.2⟩, set3 H1.out.2.2.2 (by omega) _ _ _⟩ | exact ⟨⟨rfl, cs, hfin.1, hfin.2⟩, set3 H1.out.2.2.2 (by omega) _ _ _⟩
set_option maxHeartbeats 1600000 in
theorem copiedParts_any (a : Option Addr) (cap : Nat) (S : List PPt) (w : World) (hr : RdS RdA w a S) (hl : S.length ≤ 1048576) (hs : sumT S ≤ 1048576) :
    Calls Tryz.prog 97 #[.slice a S.length cap] w fun e w' => e = .returned (.slice (some ⟨w.heap.size, 0, none⟩) S.length S.length) ∧ (∃ ps, PB w.heap.size w' w.heap.size S.length ps ∧ pts ps = S ∧ Own8 ps) ∧ Below w.heap.size w w' := by
  have HR : Hid (RdS RdA w a S) := hr
  have HS : Hid (sumT S ≤ 1048576) := hs
  clear hr hs
  have hmk := make_k (P := Tryz.prog) 54 26 (.agg #[.int .i64 0, .int .i64 0, .slice none 0 0]) 3 40 Tryz.underlying54 infoP .i64 .i64 S.length (by omega) (by omega)
  go_enter Tryz.func97, Tryz.ntmps97
  go_wp2
  go_loopw [11] (fun i w' => ∃ (k : Nat) (cur : Array Value) (ps : List PRow), k ≤ S.length ∧ i = .int .i64 k ∧ FillP w.heap.size w' w.heap.size S k cur ps ∧ Below w.heap.size w w') (fun i _ => S.length - (intOf i).toNat)
  case atStart => exact ⟨0, _, [], Nat.zero_le _, rfl, ⟨Blk.new _ _ _, by simp [size_madeCells], rfl, rfl, fun i h => by omega, fun x hx => by simp at hx, Own8.nil⟩, (Below.refl _ _).alloc (Nat.le_refl _) _⟩
  case round =>
    clear hmk
    obtain ⟨k, cur, ps, hk, rfl, hC, hw0⟩ := hrel
    have HB : Hid (Below w.heap.size w wr) := hw0
    have HC : Hid (FillP w.heap.size wr w.heap.size S k cur ps) := hC
    clear hC hw0
    by_cases hlt : k < S.length
    · have hlt' : (k : Int) < (S.length : Int) := by omega
      obtain ⟨b, off, rfl, hb, ad, cp, hat⟩ := (HR.out.below stays_rd HB.out).get hlt
      have h2 := hat.c0
      have h3 := hat.c1
      have h4 := hat.c2
      have HA : Hid (RdG RdA wr ad (nthT S k).C) := hat.reads
      have HS1 : Hid ((nthT S k).C.length ≤ 1048576 ∧ sumC (nthT S k).C ≤ 1048576) := by have := sumT_nth hlt; have := HS.out; constructor <;> omega
      clear hat
      go_wp2_with fail
      refine (copiedPart_any _ _ ad cp _ _ (HA.out.below stays_rd (Go.Joins.below_alloc1 wr _)) HS1.out.1 HS1.out.2).mono ?_
      rintro e w1 ⟨⟨M1, cs, rfl, hab, hp⟩, hb1⟩
      replace hb1 : Below wr.heap.size wr w1 := bel_box hb1
      replace hab : CB wr.heap.size w1 M1 (nthT S k).C.length cs := hab.down (by first | exact Nat.le_refl _ | simp)
      have HB1 : Hid (Below w.heap.size w w1) := grow_on HB.out hb1
      have hC1 : FillP w.heap.size w1 w.heap.size S k cur ps := HC.out.grow hb1
      have hrl : cs.length = (nthT S k).C.length := by rw [← chs_len, hp]
      have HN := hC1.next (x := ⟨(nthT S k).hd, (nthT S k).vr, some ⟨M1, 0, none⟩, (nthT S k).C.length, cs⟩) hlt (PO.of (hab.down HB.out.size)) (by unfold PRow.pt; rw [hp]) ⟨M1, rfl⟩ (fresh8 (x := ⟨(nthT S k).hd, (nthT S k).vr, some ⟨M1, 0, none⟩, (nthT S k).C.length, cs⟩) HC.out.rows (PO.of hab) (Nat.le_refl _))
      unfold put3W put3C at HN
      rw [hrl] at HN
      have HC2 : Hid _ := HN
      have hsz := hC1.size
      obtain ⟨v0, c0⟩ : ∃ v, w1.cell? ⟨w.heap.size, k * 3, none⟩ = some v := ⟨cur[k * 3]'(by omega), by rw [hC1.blk.cell]; simp⟩
      obtain ⟨v1, c1⟩ : ∃ v, w1.cell? ⟨w.heap.size, k * 3 + 1, none⟩ = some v := ⟨cur[k * 3 + 1]'(by omega), by rw [hC1.blk.cell]; simp⟩
      obtain ⟨v2, c2⟩ : ∃ v, w1.cell? ⟨w.heap.size, k * 3 + 2, none⟩ = some v := ⟨cur[k * 3 + 2]'(by omega), by rw [hC1.blk.cell]; simp⟩
      have f0 := hC1.blk.frozen (k * 3)
      have f1 := hC1.blk.frozen (k * 3 + 1)
      have f2 := hC1.blk.frozen (k * 3 + 2)
      clear hb1 h2 h3 h4 hC1 hsz HN hab hp hrl
      go_wp2
      go_roundw
      case rel => exact ⟨k + 1, _, _, by omega, by go_num, HC2.out, ((HB1.out.setCell (Nat.le_refl _) _).setCell (Nat.le_refl _) _).setCell (Nat.le_refl _) _⟩
      case measure => simp [intOf]; omega
    · have hge : ¬ (k : Int) < (S.length : Int) := by omega
      have HE : Hid (k = S.length) := by show k = S.length; omega
      go_wp2
      go_ret
      have hF := HC.out
      rw [HE.out] at hF
      exact ⟨rfl, ⟨ps, hF.pb (Nat.le_refl _) hl⟩, HB.out⟩
set_option maxRecDepth 100000 in
set_option maxHeartbeats 3200000 in
theorem l8Copy_any (a : Option Addr) (cap : Nat) (S : List PPt) (w : World) (hr : RdS RdN w a S) (hl : S.length ≤ 1048576) (hs : sumT S ≤ 1048576) :
    Calls Tryz.prog 103 #[.slice a S.length cap] w fun e w' => (∃ M c ps, e = .returned (.slice (some ⟨M, 0, none⟩) ps.length c) ∧ PB w.heap.size w' M c ps ∧ pts ps = S ∧ Own8 ps) ∧ Below w.heap.size w w' := by
  have HR : Hid (RdS RdN w a S ∧ sumT S ≤ 1048576) := ⟨hr, hs⟩
  clear hr hs
  obtain ⟨i0, hi, hz0, hz1, hz2⟩ := info_parts infoP
  go_enter Tryz.func103, Tryz.ntmps103
  go_wp2
  go_loopw [3, 4] (fun v i w' => ∃ (k M c : Nat) (ps : List PRow), i = .int .i64 k ∧ k ≤ S.length ∧ v = .slice (some ⟨M, 0, none⟩) ps.length c ∧ PB w.heap.size w' M c ps ∧ pts ps = S.take k ∧ Own8 ps ∧ Below w.heap.size w w') (fun _ i _ => S.length - (intOf i).toNat)
  case atStart => exact ⟨0, w.heap.size, 0, [], rfl, Nat.zero_le _, rfl, PB.nil (Blk.new _ _ _) (Nat.le_refl _), rfl, Own8.nil, Go.Joins.below_alloc1 w _⟩
  case round =>
    obtain ⟨k, M, c, ps, rfl, hk, rfl, hab, hp, hO, hb⟩ := hrel
    have HAB : Hid (PB w.heap.size wr M c ps ∧ Own8 ps) := ⟨hab, hO⟩
    have HP : Hid (pts ps = S.take k) := hp
    have HB : Hid (Below w.heap.size w wr) := hb
    have HRl : Hid (ps.length = k) := by show _ = _; rw [← pts_len, hp]; simp; omega
    have hrl : ps.length ≤ 1048576 := by have := HRl.out; omega
    clear hab hp hb hO
    by_cases hlt : k < S.length
    · have hlt' : (k : Int) < (S.length : Int) := by omega
      obtain ⟨b, off, ea, hb, ad, cp, hat⟩ := (HR.out.1.below stays_rn HB.out).get hlt
      cases ea
      have h2 := hat.c0
      have h3 := hat.c1
      have h4 := hat.c2
      have HSm : Hid ((nthT S k).C.length ≤ 1048576 ∧ PrtO.Small (nthT S k).C) := by have h0 := sumT_nth hlt; have h1 := HR.out.2; exact ⟨by omega, small_of (by omega)⟩
      have HC : Hid (Calls Tryz.prog 69 #[.agg #[.int .i64 (nthT S k).hd, .int .i64 (nthT S k).vr, .slice ad (nthT S k).C.length cp]] wr fun e w' => (∃ M c cs, e = .returned (.agg #[.int .i64 (nthT S k).hd, .int .i64 (nthT S k).vr, .slice (some ⟨M, 0, none⟩) cs.length c]) ∧ CB wr.heap.size w' M c cs ∧ chs cs = (nthT S k).C) ∧ Below wr.heap.size wr w') := PrtC.l7Copy_any _ _ ad cp _ wr hat.reads HSm.out.1 HSm.out.2
      clear hat
      go_wp2_with fail
      refine HC.out.mono ?_
      rintro e w1 ⟨⟨M1, c1, cs, rfl, hC, hch⟩, hb1⟩
      have HAB1 : Hid (PB w.heap.size w1 M c ps) := HAB.out.1.grow hb1
      have HC1 : Hid (CB wr.heap.size w1 M1 c1 cs ∧ chs cs = (nthT S k).C) := ⟨hC, hch⟩
      have HB1 : Hid (Below w.heap.size w w1) := grow_on HB.out hb1
      have HNe : Hid (∀ y ∈ ps, ∀ q, blksP y q → ¬ blksP (⟨(nthT S k).hd, (nthT S k).vr, some ⟨M1, 0, none⟩, c1, cs⟩ : PRow) q) := fresh8 (x := (⟨(nthT S k).hd, (nthT S k).vr, some ⟨M1, 0, none⟩, c1, cs⟩ : PRow)) HAB.out.1.rows (PO.of hC) (Nat.le_refl _)
      have HU : Hid (∀ o1 o2, Below w1.heap.size w1 ((w1.alloc o1).alloc o2)) := fun o1 o2 => Go.Joins.below_alloc2 w1 o1 o2
      obtain ⟨xs, hox, hxl, hxs⟩ := HAB1.out.own
      have HOX : Hid (∀ o1 o2, ((w1.alloc o1).alloc o2).ownsRow w.heap.size 26 3 (.slice (some ⟨M, 0, none⟩) ps.length c) ps.length xs) := fun o1 o2 => own_grow hox (Go.Joins.below_alloc2 w1 o1 o2)
      have HXS : Hid (xs.length = ps.length * 3 ∧ ∀ i, i < ps.length → Cel3 (fun k => xs[k]?) i (nthQ ps i)) := ⟨hxl, hxs⟩
      clear hb1 hC hch h2 h3 h4 HC hox hxl hxs
      go_wp2_with (at_builtin; refine wpList_append_own_at _ rfl _ _ 54 rfl w.heap.size 26 i0 (.agg #[.int .i64 0, .int .i64 0, .slice none 0 0]) 3 40 Tryz.underlying54 hi hz0 hz1 hz2 rfl (by decide) _ _ _ rfl (HOX.out _ _) ⟨w1.heap.size + 1, 0, none⟩ 1 1 (rowP (⟨(nthT S k).hd, (nthT S k).vr, some ⟨M1, 0, none⟩, c1, cs⟩ : PRow)) rfl rfl ?c1 (rowP_one _) ?c3 ?c4 ?c5 ?_)
      case c1 => exact blk_news (Blk.new_at (by simp))
      case c3 => unfold maxLen; omega
      case c4 => omega
      case c5 => have := HB1.out.size; simp; omega
      intro v' w2 hown hg hnil hat
      obtain ⟨M3, c3, rfl, hAB3⟩ := (HAB1.out.grow (HU.out _ _)).app (x := (⟨(nthT S k).hd, (nthT S k).vr, some ⟨M1, 0, none⟩, c1, cs⟩ : PRow)) (PO.of ((HC1.out.1.down HB.out.size).grow (HU.out _ _))) HXS.out.1 HXS.out.2 hown hg
      have HAB3 : Hid (PB w.heap.size w2 M3 c3 (ps ++ [(⟨(nthT S k).hd, (nthT S k).vr, some ⟨M1, 0, none⟩, c1, cs⟩ : PRow)]) ∧ Own8 (ps ++ [(⟨(nthT S k).hd, (nthT S k).vr, some ⟨M1, 0, none⟩, c1, cs⟩ : PRow)])) := ⟨hAB3, HAB.out.2.app ⟨M1, rfl⟩ HNe.out⟩
      have HB3 : Hid (Below w.heap.size w w2) := (grow_on HB1.out (HU.out _ _)).grown hg (by have := HB1.out.size; simp; omega) (fun k e => by have h : M = k := Option.some.inj e; have := HAB.out.1.at'; omega)
      have HP3 : Hid (pts (ps ++ [(⟨(nthT S k).hd, (nthT S k).vr, some ⟨M1, 0, none⟩, c1, cs⟩ : PRow)]) = S.take (k + 1)) := by
        show _ = _
        rw [pts_app, HP.out, takeT_up hlt]
        congr 2
        unfold PRow.pt
        rw [HC1.out.2]
      have HL3 : Hid ((ps ++ [(⟨(nthT S k).hd, (nthT S k).vr, some ⟨M1, 0, none⟩, c1, cs⟩ : PRow)]).length = ps.length + 1) := by show _ = _; simp
      clear hown hg hnil hat hAB3
      go_wp2
      go_roundw
      case rel => exact ⟨k + 1, M3, c3, _, by go_num, by omega, by rw [HL3.out], HAB3.out.1, HP3.out, HAB3.out.2, HB3.out⟩
      case measure => simp [intOf]; omega
    have hge : ¬ (k : Int) < (S.length : Int) := by omega
    have HF : Hid (pts ps = S) := by show _ = _; rw [HP.out]; exact List.take_of_length_le (by omega)
    go_wp2
    go_ret
    exact ⟨⟨M, c, ps, rfl, HAB.out.1, HF.out, HAB.out.2⟩, HB.out⟩
end Go.Proofs.YtooninmicfcfoaaGreat.StsC
