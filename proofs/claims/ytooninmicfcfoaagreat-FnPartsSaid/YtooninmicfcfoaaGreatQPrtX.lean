/-
  PROVED: over a part in memory spec.SweepIn gives what is left, chain by chain, and what goes, as plain functions on lists say, in memory of its own; nothing that was there is changed.
-/
import Derived.Test.YtooninmicfcfoaaGreatQPrtW
set_option linter.unusedVariables false
namespace Go.Proofs.YtooninmicfcfoaaGreat.PrtX
open Go.RowKit
open Labs LabS Alms AlmM Over Blk App Rws ChnI ChnC ChnP ChnD ChnV ChnK Chs Prt PrtA PrtM PrtW

set_option maxRecDepth 100000 in
set_option maxHeartbeats 4000000 in
theorem specSweep_any (hd vr now : Int) (a : Option Addr) (cap : Nat) (C : List PCh) (w : World) (hr : RdG RdN w a C) (hl : C.length ≤ 1048576) (hs : SmallA C) (hc : sumC C ≤ 1048576) :
    Calls Tryz.prog 16 #[.agg #[.int .i64 hd, .int .i64 vr, .slice a C.length cap], .int .i64 now] w fun e w' => (∃ M c cs Md cd rs, e = .returned (.tuple #[.agg #[.int .i64 hd, .int .i64 (verS vr (gonesTo C now C.length).length), .slice (some ⟨M, 0, none⟩) cs.length c], .slice (some ⟨Md, 0, none⟩) rs.length cd]) ∧ CB w.heap.size w' M c cs ∧ AB w.heap.size w' Md cd rs ∧ chs cs = sweepTo C now C.length ∧ pals rs = gonesTo C now C.length) ∧ Below w.heap.size w w' := by
  have HR : Hid (RdG RdN w a C ∧ SmallA C ∧ sumC C ≤ 1048576) := ⟨hr, hs, hc⟩
  clear hr hs hc
  obtain ⟨i0, hi, hz0, hz1, hz2⟩ := info_parts infoA
  obtain ⟨j0, hj, hy0, hy1, hy2⟩ := info_parts infoC
  go_enter Tryz.func16, Tryz.ntmps16
  go_wp2
  obtain ⟨W0, hW0⟩ : ∃ W0, ((((w.alloc (.cells #[.int .i64 hd, .int .i64 vr, .slice a C.length cap] 26)).alloc (.cells #[.int .i64 0, .int .i64 0, .slice none 0 0] 26)).alloc (.cells #[] 96)).alloc (.cells #[.int .i64 hd, .int .i64 vr, .slice (some ⟨w.heap.size + 1 + 1, 0, none⟩) 0 0] 26)).alloc (.cells #[] 29) = W0 := ⟨_, rfl⟩
  have HW0 : Hid (MidW w hd vr a C.length cap W0 (w.heap.size + 4) 0 [] (w.heap.size + 2) 0 []) := by
    show MidW w hd vr a C.length cap W0 (w.heap.size + 4) 0 [] (w.heap.size + 2) 0 []
    rw [← hW0]
    exact ⟨((((Blk.new _ _ _).alloc _).alloc _).alloc _).alloc _, (((Blk.new_at (by simp)).alloc _).alloc _).alloc _, (Blk.new_at (by simp)).alloc _, AB.nil (Blk.new_at (by simp)) (by omega), CB.nil (((Blk.new_at (by simp)).alloc _).alloc _) (by omega), fun x hx => by simp at hx, grow_on (Alm.below3 w _ _ _) (Go.Joins.below_alloc2 _ _ _), by simp⟩
  try rw [hW0]
  clear hW0
  go_loopw [7, 8] (fun v i w' => ∃ (k Md cd : Nat) (rs : List ARow) (M c : Nat) (cs : List CRow), i = .int .i64 k ∧ k ≤ C.length ∧ v = .slice (some ⟨Md, 0, none⟩) rs.length cd ∧ MidW w hd vr a C.length cap w' Md cd rs M c cs ∧ chs cs = sweepTo C now k ∧ pals rs = gonesTo C now k) (fun _ i _ => C.length - (intOf i).toNat)
  case atStart => exact ⟨0, w.heap.size + 4, 0, [], w.heap.size + 2, 0, [], rfl, Nat.zero_le _, rfl, HW0.out, rfl, rfl⟩
  case round =>
    obtain ⟨k, Md, cd, rs, M, c, cs, rfl, hk, rfl, hmid, hpc, hpg⟩ := hrel
    have HM : Hid (MidW w hd vr a C.length cap wr Md cd rs M c cs) := hmid
    have HP : Hid (chs cs = sweepTo C now k ∧ pals rs = gonesTo C now k) := ⟨hpc, hpg⟩
    have hrl : rs.length ≤ 1048576 := by have h1 := (sweep_sum (C := C) (now := now) hk).1; have h2 := sumC_le C k; have h3 := HR.out.2.2; rw [← hpg, pals_len] at h1; omega
    have hcl : cs.length ≤ 1048576 := by have h1 := (sweep_sum (C := C) (now := now) hk).2; rw [← hpc, chs_len] at h1; omega
    have c2 : wr.cell? ⟨w.heap.size, 2, none⟩ = some (.slice a C.length cap) := hmid.part.cell 2
    clear hmid hpc hpg
    by_cases hlt : k < C.length
    · have hlt' : (k : Int) < (C.length : Int) := by omega
      obtain ⟨b, off, ea, hb, ad, cp, hat⟩ := (HR.out.1.below stays_rn HM.out.low).get hlt
      cases ea
      have h2 := hat.c0
      have h3 := hat.c1
      have HRD : Hid (RdN wr ad (nthC C k).P) := hat.reads
      have HSk : Hid ((nthC C k).P.length ≤ 1048576 ∧ LenM (nthC C k).P) := HR.out.2.1 _ (nthC_mem hlt)
      clear hat
      go_wp2_with fail
      refine (specDrop_any _ ad cp (nthC C k).P now wr HRD.out HSk.out.1 HSk.out.2).mono ?_
      rintro e w2 ⟨⟨M1, c1, rs1, M2, c2', rs2, rfl, hT, hp1, hp2⟩, hb2⟩
      have HT : Hid (Two wr.heap.size w2 M1 c1 rs1 M2 c2' rs2 ∧ pals rs1 = leftTo (nthC C k).P now (nthC C k).P.length ∧ pals rs2 = goneTo (nthC C k).P now (nthC C k).P.length) := ⟨hT, hp1, hp2⟩
      have HM2 : Hid (MidW w hd vr (some ⟨b, off, none⟩) C.length cap w2 Md cd rs M c cs) := HM.out.grow hb2
      have HB2 : Hid (Below wr.heap.size wr w2) := hb2
      clear hT hp1 hp2 hb2 h2 h3 c2
      obtain ⟨W3, hW3⟩ : ∃ W3, w2.alloc (.cells #[.int .i64 (nthC C k).f, .slice (some ⟨M1, 0, none⟩) rs1.length c1] 96) = W3 := ⟨_, rfl⟩
      have H3 : Hid (Below w2.heap.size w2 W3 ∧ Blk W3 w2.heap.size #[.int .i64 (nthC C k).f, .slice (some ⟨M1, 0, none⟩) rs1.length c1] 96) := by
        rw [← hW3]
        exact ⟨Go.Joins.below_alloc1 w2 _, Blk.new _ _ _⟩
      have HM3 : Hid (MidW w hd vr (some ⟨b, off, none⟩) C.length cap W3 Md cd rs M c cs) := HM2.out.grow H3.out.1
      have HT3 : Hid (Two wr.heap.size W3 M1 c1 rs1 M2 c2' rs2) := HT.out.1.grow H3.out.1
      have HL : Hid (rs1.length = (leftTo (nthC C k).P now (nthC C k).P.length).length ∧ rs2.length = (goneTo (nthC C k).P now (nthC C k).P.length).length) := ⟨by rw [← pals_len, HT.out.2.1], by rw [← pals_len, HT.out.2.2]⟩
      have hgl : rs.length + rs2.length ≤ 1048576 := by
        have h1 := (sweep_sum (C := C) (now := now) (k := k + 1) (by omega)).1
        have h2 := sumC_le C (k + 1)
        have h3 := HR.out.2.2
        rw [gones_up hlt, List.length_append, ← HP.out.2, pals_len, ← HL.out.2] at h1
        omega
      obtain ⟨xs, hox, hxl, hxs⟩ := HM3.out.gone.own
      have HOX : Hid (W3.ownsRow (w.heap.size + 2) 29 4 (.slice (some ⟨Md, 0, none⟩) rs.length cd) rs.length xs) := hox
      have HXS : Hid (xs.length = rs.length * 4 ∧ ∀ i, i < rs.length → Four (fun k => xs[k]?) i (nthA rs i)) := ⟨hxl, hxs⟩
      clear hox hxl hxs
      go_wp2_with (at_builtin; refine wpList_append_own_at _ rfl _ _ 40 rfl (w.heap.size + 2) 29 i0 (.agg #[.slice none 0 0, .int .i64 0, .int .i64 0, .string ByteArray.empty]) 4 56 Tryz.underlying40 hi hz0 hz1 hz2 rfl (by decide) _ _ _ rfl HOX.out ⟨M2, 0, none⟩ rs2.length _ (flatA rs2) rfl (flatA_len rs2) (flatA_news HT3.out.b) (flatA_one _) ?c3 ?c4 ?c5 ?_)
      case c3 => unfold maxLen; omega
      case c4 => omega
      case c5 => have := HM3.out.size; omega
      intro v' w4 hown hg hnil hat
      have hwz : w.heap.size + 2 ≤ wr.heap.size := by have := HM.out.size; omega
      obtain ⟨M4, c4, rfl, hAB4⟩ := AB.appAll HM3.out.gone (fun x hx => (HT3.out.b.rows x hx).down hwz) HT3.out.b.ne (fun y hy x hx => by have := (HM.out.gone.rows y hy).lt; have := (HT3.out.b.rows x hx).1; omega) HXS.out.1 HXS.out.2 hown hg (fun e => by rw [e] at hat; simp [Value.ownBlock] at hat)
      have hM4 : M4 = Md ∨ M4 = W3.heap.size := at_new hat rfl
      obtain ⟨cu, hcu⟩ := ab_out HM3.out.gone
      have hMd := HM.out.gone.lt
      have hMdat := HM.out.gone.at'
      have hdp : some w.heap.size ≠ some Md := fun e => by have := Option.some.inj e; omega
      have hdr : some (w.heap.size + 1) ≠ some Md := fun e => by have := Option.some.inj e; omega
      have hdo : some (w.heap.size + 3) ≠ some Md := fun e => blkT_ne HM3.out.out hcu (by decide) (Option.some.inj e)
      have HM4 : Hid (MidW w hd vr (some ⟨b, off, none⟩) C.length cap w4 M4 c4 (rs ++ rs2) M c cs) := ⟨blk_far HM3.out.part hg hdp, blk_far HM3.out.res hg hdr, blk_far HM3.out.out hg hdo, hAB4, cb_far HM3.out.left hcu hg HM3.out.ne, fun x hx => by
        rcases hM4 with e | e
        · rw [e]; exact HM.out.ne x hx
        · have := (HM3.out.left.rows.rows x hx).lt
          omega, HM3.out.low.grown hg (by have := HM3.out.size; omega) (fun q e => by have h : Md = q := Option.some.inj e; omega), Nat.le_trans HM3.out.size hg.size⟩
      have HX4 : Hid (Blk w4 w2.heap.size #[.int .i64 (nthC C k).f, .slice (some ⟨M1, 0, none⟩) rs1.length c1] 96) := blk_far H3.out.2 hg (fun e => blkT_ne H3.out.2 hcu (by decide) (Option.some.inj e))
      have HA4 : Hid (AB wr.heap.size w4 M1 c1 rs1 ∧ M1 ≠ M4) := ⟨ab_far HT3.out.a hcu hg (by have := HT3.out.a.at'; omega), by
        rcases hM4 with e | e
        · have := HT3.out.a.at'; omega
        · have := HT3.out.a.lt; omega⟩
      have HG4 : Hid (pals (rs ++ rs2) = gonesTo C now (k + 1)) := by show _ = _; rw [pals_two, HP.out.2, HT.out.2.2, gones_up hlt]
      have hl4 : (rs ++ rs2).length = rs.length + rs2.length := by simp
      rw [← hl4]
      have x1 : w4.cell? ⟨w2.heap.size, 1, none⟩ = some (.slice (some ⟨M1, 0, none⟩) rs1.length c1) := HX4.out.cell 1
      clear hown hg hnil hat hAB4 hM4 hcu hMd hMdat hdp hdr hdo hW3 hl4
      generalize hqq : rs ++ rs2 = qs at HM4 HG4 ⊢
      clear hqq
      by_cases hle : rs1.length = 0
      · have HS : Hid (sweepTo C now (k + 1) = sweepTo C now k) := sweep_no hlt (sweep1_no (by have := HL.out.1; omega))
        have hle' : ¬ (0 : Int) < (rs1.length : Int) := by omega
        go_wp2
        go_roundw
        case rel => exact ⟨k + 1, M4, c4, qs, M, c, cs, by go_num, by omega, rfl, HM4.out, by rw [HS.out]; exact HP.out.1, HG4.out⟩
        case measure => simp [intOf]; omega
      · have HS : Hid (sweepTo C now (k + 1) = sweepTo C now k ++ [⟨(nthC C k).f, leftTo (nthC C k).P now (nthC C k).P.length⟩]) := sweep_yes hlt (sweep1_yes (by have := HL.out.1; omega))
        have hle' : (0 : Int) < (rs1.length : Int) := by omega
        have x0 : w4.cell? ⟨w2.heap.size, 0, none⟩ = some (.int .i64 (nthC C k).f) := HX4.out.cell 0
        have o2 : w4.cell? ⟨w.heap.size + 3, 2, none⟩ = some (.slice (some ⟨M, 0, none⟩) cs.length c) := HM4.out.out.cell 2
        obtain ⟨xs, hox, hxl, hxs⟩ := HM4.out.left.own
        have HOX2 : Hid (∀ o, (w4.alloc o).ownsRow (w.heap.size + 2) 96 2 (.slice (some ⟨M, 0, none⟩) cs.length c) cs.length xs) := fun o => own_grow hox (Go.Joins.below_alloc1 w4 o)
        have HXS2 : Hid (xs.length = cs.length * 2 ∧ ∀ i, i < cs.length → Cel (fun k => xs[k]?) i (nthR cs i)) := ⟨hxl, hxs⟩
        have HU : Hid (∀ o, Below w4.heap.size w4 (w4.alloc o)) := fun o => Go.Joins.below_alloc1 w4 o
        clear hox hxl hxs
        go_wp2_with (at_builtin; refine wpList_append_own_at _ rfl _ _ 24 rfl (w.heap.size + 2) 96 j0 (.agg #[.int .i64 0, .slice none 0 0]) 2 32 Tryz.underlying24 hj hy0 hy1 hy2 rfl (by decide) _ _ _ rfl (HOX2.out _) ⟨w4.heap.size, 0, none⟩ 1 1 (rowC ⟨(nthC C k).f, M1, c1, rs1⟩) rfl rfl (blk_news (Blk.new _ _ _)) (rowC_one _) ?c3 ?c4 ?c5 ?_)
        case c3 => unfold maxLen; omega
        case c4 => omega
        case c5 => have := HM4.out.size; simp; omega
        intro v' w5 hown hg hnil hat
        obtain ⟨M5, c5, rfl, hAB5⟩ := (HM4.out.left.grow (HU.out _)).app (x := ⟨(nthC C k).f, M1, c1, rs1⟩) ((HA4.out.1.down hwz).grow (HU.out _)) (fun y hy q h1 h2 => by have h3 := blks_high (HM.out.left.rows.rows y hy) q h1; have h4 := blks_low HA4.out.1 q h2; omega) HXS2.out.1 HXS2.out.2 hown hg
        obtain ⟨cu, hcu, _⟩ := (HM4.out.left.grow (HU.out _)).outer
        have fr : ∀ {N : Nat} {ds : Array Value} {T : TypeId}, Blk w4 N ds T → T ≠ 96 → Blk w5 N ds T := fun h hT => blk_far (h.grow (HU.out _)) hg (fun e => blkT_ne (h.grow (HU.out _)) hcu hT (Option.some.inj e))
        have HO5 : Hid (Blk w5 (w.heap.size + 3) #[.int .i64 hd, .int .i64 vr, .slice (some ⟨M, 0, none⟩) cs.length c] 26) := fr HM4.out.out (by decide)
        have HM5 : Hid (Blk w5 w.heap.size #[.int .i64 hd, .int .i64 vr, .slice (some ⟨b, off, none⟩) C.length cap] 26 ∧ Blk w5 (w.heap.size + 1) #[.int .i64 0, .int .i64 0, .slice none 0 0] 26 ∧ AB (w.heap.size + 2) w5 M4 c4 qs ∧ CB (w.heap.size + 2) w5 M5 c5 (cs ++ [⟨(nthC C k).f, M1, c1, rs1⟩]) ∧ Below w.heap.size w w5 ∧ w.heap.size + 5 ≤ w5.heap.size) := ⟨fr HM4.out.part (by decide), fr HM4.out.res (by decide), ab_moved (HM4.out.gone.grow (HU.out _)) (Moved.far hcu (by decide) (by decide) hg), hAB5, (grow_on HM4.out.low (HU.out _)).grown hg (by have := HM4.out.size; simp; omega) (fun q e => by have h : M = q := Option.some.inj e; have := HM4.out.left.at'; omega), Nat.le_trans (Nat.le_trans HM4.out.size (HU.out (.cells #[.int .i64 (nthC C k).f, .slice (some ⟨M1, 0, none⟩) rs1.length c1] 96)).size) hg.size⟩
        have HP5 : Hid (chs (cs ++ [⟨(nthC C k).f, M1, c1, rs1⟩]) = sweepTo C now (k + 1)) := by
          show _ = _
          rw [chs_app, HP.out.1, HS.out]
          congr 2
          unfold CRow.ch
          rw [HT.out.2.1]
        have hl5 : (cs ++ [(⟨(nthC C k).f, M1, c1, rs1⟩ : CRow)]).length = cs.length + 1 := by simp
        have o0 : w5.cell? ⟨w.heap.size + 3, 2, none⟩ = some (.slice (some ⟨M, 0, none⟩) cs.length c) := HO5.out.cell 2
        have fo := HO5.out.frozen 2
        have HNE : Hid (∀ x ∈ cs ++ [(⟨(nthC C k).f, M1, c1, rs1⟩ : CRow)], x.M ≠ M4) := fun x hx => by
          rcases List.mem_append.1 hx with hx | hx
          · exact HM4.out.ne x hx
          · rw [List.mem_singleton.1 hx]; exact HA4.out.2
        clear hown hg hnil hat hAB5 hcu fr x0 x1 o2
        rw [← hl5]
        generalize hqq : cs ++ [(⟨(nthC C k).f, M1, c1, rs1⟩ : CRow)] = ds at HM5 HP5 HNE ⊢
        clear hqq hl5
        go_wp2
        go_roundw
        case rel =>
          refine ⟨k + 1, M4, c4, qs, M5, c5, ds, by go_num, by omega, rfl, ⟨HM5.out.1.set_other (by show w.heap.size + 3 ≠ w.heap.size; omega) _, HM5.out.2.1.set_other (by show w.heap.size + 3 ≠ w.heap.size + 1; omega) _, HO5.out.set 2 _, ab_moved HM5.out.2.2.1 (Moved.set HO5.out (by decide) (by decide) _ _), CB.set' HM5.out.2.2.2.1 HO5.out _ _, HNE.out, HM5.out.2.2.2.2.1.setCell (by show w.heap.size ≤ w.heap.size + 3; omega) _, by rw [size_setCell]; exact HM5.out.2.2.2.2.2⟩, HP5.out, HG4.out⟩
        case measure => simp [intOf]; omega
    · have hge : ¬ (k : Int) < (C.length : Int) := by omega
      have HF : Hid (chs cs = sweepTo C now C.length ∧ pals rs = gonesTo C now C.length) := ⟨by rw [HP.out.1]; exact (sweep_all (by omega)).1, by rw [HP.out.2]; exact (sweep_all (by omega)).2⟩
      have HRL : Hid (rs.length = (gonesTo C now C.length).length) := by show _ = _; rw [← pals_len, HF.out.2]
      have hO := HM.out.out
      have hR := HM.out.res
      have hp := HM.out.part
      have p1 : wr.cell? ⟨w.heap.size, 1, none⟩ = some (.int .i64 vr) := hp.cell 1
      have o0 : wr.cell? ⟨w.heap.size + 3, 0, none⟩ = some (.int .i64 hd) := hO.cell 0
      have o1 : wr.cell? ⟨w.heap.size + 3, 1, none⟩ = some (.int .i64 vr) := hO.cell 1
      have o2 : wr.cell? ⟨w.heap.size + 3, 2, none⟩ = some (.slice (some ⟨M, 0, none⟩) cs.length c) := hO.cell 2
      have g1 := hO.frozen 1
      have r0 : wr.cell? ⟨w.heap.size + 1, 0, none⟩ = some (.int .i64 0) := hR.cell 0
      have r1 : wr.cell? ⟨w.heap.size + 1, 1, none⟩ = some (.int .i64 0) := hR.cell 1
      have r2 : wr.cell? ⟨w.heap.size + 1, 2, none⟩ = some (.slice none 0 0) := hR.cell 2
      have f0 := hR.frozen 0
      have f1 := hR.frozen 1
      have f2 := hR.frozen 2
      clear hO hR hp
      by_cases hz : rs.length = 0
      · have hz' : ¬ (0 : Int) < (rs.length : Int) := by omega
        have HV : Hid (verS vr (gonesTo C now C.length).length = vr) := verS_0 (by have := HRL.out; omega)
        go_wp2
        have hs := put3 HM.out.res (.int .i64 hd) (.int .i64 vr) (.slice (some ⟨M, 0, none⟩) cs.length c)
        have s0 := hs.cell 0
        have s1 := hs.cell 1
        have s2 := hs.cell 2
        refine bodyPost_ret (v := .tuple #[.agg #[.int .i64 hd, .int .i64 vr, .slice (some ⟨M, 0, none⟩) cs.length c], .slice (some ⟨Md, 0, none⟩) rs.length cd]) (by simp [results, Tryz.results16, go_sem, s0, s1, s2, hz]) rfl ?_
        rw [HV.out]
        exact ⟨⟨M, c, cs, Md, cd, rs, rfl, (CB.set3 HM.out.left HM.out.res _ _ _).down (by omega), (ab_moved HM.out.gone (((Moved.set HM.out.res (by decide) (by decide) _ _).trans (Moved.set (HM.out.res.set 0 _) (by decide) (by decide) _ _)).trans (Moved.set ((HM.out.res.set 0 _).set 1 _) (by decide) (by decide) _ _))).down (by omega), HF.out.1, HF.out.2⟩, set3 HM.out.low (by omega) _ _ _⟩
      · have hz' : (0 : Int) < (rs.length : Int) := by omega
        obtain ⟨vu, hvu⟩ : ∃ vu, IntKind.i64.wrap (vr + 1) = vu := ⟨_, rfl⟩
        have HV : Hid (verS vr (gonesTo C now C.length).length = vu) := by show _ = _; rw [← hvu]; exact verS_1 (by have := HRL.out; omega)
        go_wp2
        have hs := put3 (HM.out.res.set_other (p := ⟨w.heap.size + 3, 1, none⟩) (by show w.heap.size + 3 ≠ w.heap.size + 1; omega) (.int .i64 vu)) (.int .i64 hd) (.int .i64 vu) (.slice (some ⟨M, 0, none⟩) cs.length c)
        have s0 := hs.cell 0
        have s1 := hs.cell 1
        have s2 := hs.cell 2
        refine bodyPost_ret (v := .tuple #[.agg #[.int .i64 hd, .int .i64 (vu), .slice (some ⟨M, 0, none⟩) cs.length c], .slice (some ⟨Md, 0, none⟩) rs.length cd]) (by simp [results, Tryz.results16, go_sem, s0, s1, s2]) rfl ?_
        rw [HV.out]
        have hr1 := HM.out.res.set_other (p := ⟨w.heap.size + 3, 1, none⟩) (by show w.heap.size + 3 ≠ w.heap.size + 1; omega) (.int .i64 vu)
        exact ⟨⟨M, c, cs, Md, cd, rs, rfl, (CB.set3 (CB.set' HM.out.left HM.out.out 1 _) hr1 _ _ _).down (by omega), (ab_moved HM.out.gone ((Moved.set HM.out.out (by decide) (by decide) 1 _).trans (((Moved.set hr1 (by decide) (by decide) _ _).trans (Moved.set (hr1.set 0 _) (by decide) (by decide) _ _)).trans (Moved.set ((hr1.set 0 _).set 1 _) (by decide) (by decide) _ _)))).down (by omega), HF.out.1, HF.out.2⟩, set3 (ChnI.set_low HM.out.low (by omega) _ _) (by omega) _ _ _⟩
end Go.Proofs.YtooninmicfcfoaaGreat.PrtX
