/-
  PROVED: spec.Flush answers a group without what is over, and a batch of all, in memory of their own; nothing that was there is changed.
-/
import Derived.Test.YtgncimlojbnbfaaGreatQTk
import Derived.Test.YtgncimlojbnbfaaGreatQGrpC
import Derived.Deep.RegionHeld3
set_option linter.unusedVariables false
namespace Go.Proofs.YtgncimlojbnbfaaGreat.GrpF
open Go.RowKit
open Labs LabS Alms AlmS AlmM Over Blk App Rws ChnI ChnC ChnK Chs Grp GrpC
open ChnP (own_grow)
theorem left_o {P : List PAl} {now : Int} {k : Nat} (h : k < P.length) (ho : overB (nthP P k).e now = true) : leftTo P now (k + 1) = leftTo P now k := by rw [left_up h, if_pos ho]; simp
theorem left_k {P : List PAl} {now : Int} {k : Nat} (h : k < P.length) (ho : overB (nthP P k).e now = false) : leftTo P now (k + 1) = leftTo P now k ++ [nthP P k] := by rw [left_up h, ho]; simp
theorem left_le {P : List PAl} {now : Int} {k : Nat} (h : k ≤ P.length) : (leftTo P now k).length ≤ P.length := by
  have h1 := drop_len P now k
  have h2 : (P.take k).length ≤ P.length := by simp; omega
  omega
theorem OwnL.moved {lo : Nat} {w w' : World} {Ke : Nat} {key : List Lab} (h : OwnL lo w Ke key) (hm : Moved w w') : OwnL lo w' Ke key := by
  obtain ⟨h0, cs, h1, h2⟩ := h
  exact ⟨h0, cs, hm.L h1, h2⟩
structure MidF (w : World) (C : Array Value) (O : Nat) (n b now : Int) (Ke kd : Nat) (key : List Lab) (W : World) (M c : Nat) (rs : List ARow) : Prop where
  bp : Blk W w.heap.size C 53
  br : Blk W (w.heap.size + 1) #[.int .i64 0, .slice none 0 0, .int .i64 0, .int .i64 0, .slice none 0 0] 53
  bs : Blk W (w.heap.size + 1 + 1) #[.int .i64 0, .slice none 0 0, .int .i64 0, .slice none 0 0] 37
  bo : Blk W O #[.int .i64 n, .slice (some ⟨Ke, 0, none⟩) key.length kd, .int .i64 b, .int .i64 now, .slice (some ⟨M, 0, none⟩) rs.length c] 53
  ord : w.heap.size + 2 < O ∧ O < W.heap.size
  key : OwnL (w.heap.size + 3) W Ke key
  ab : AB (w.heap.size + 3) W M c rs
  ne : ¬ blks M rs Ke
  below : Below w.heap.size w W
theorem MidF.grow {w : World} {C : Array Value} {O : Nat} {n b now : Int} {Ke kd : Nat} {key : List Lab} {W W' : World} {M c : Nat} {rs : List ARow} (h : MidF w C O n b now Ke kd key W M c rs) (hb : Below W.heap.size W W') : MidF w C O n b now Ke kd key W' M c rs :=
  ⟨h.bp.grow hb, h.br.grow hb, h.bs.grow hb, h.bo.grow hb, ⟨h.ord.1, Nat.lt_of_lt_of_le h.ord.2 hb.size⟩, h.key.grow hb, h.ab.grow hb, h.ne, grow_on h.below hb⟩
theorem ne_blk {w : World} {x y : Nat} {cs ds : Array Value} {T U : TypeId} (h : Blk w x cs T) (k : Blk w y ds U) (hT : T ≠ U) : x ≠ y := fun e => by
  subst e
  unfold Blk at h k
  rw [h] at k
  cases k
  exact hT rfl
set_option maxRecDepth 100000 in
set_option maxHeartbeats 3200000 in
theorem specFlush_any (n b t : Int) (gk ok kc : Nat) (key : List Lab) (a : Option Addr) (cap : Nat) (P : List PAl) (now : Int) (w : World) (hk : Reads w (some ⟨gk, ok, none⟩) key) (hkl : key.length ≤ 1048576) (hr : RdN w a P) (hl : P.length ≤ 1048576) (hs : LenM P) :
    Calls Tryz.prog 40 #[.agg #[.int .i64 n, .slice (some ⟨gk, ok, none⟩) key.length kc, .int .i64 b, .int .i64 t, .slice a P.length cap], .int .i64 now] w fun e w' => (∃ Ke kd M c rs K2 kd2 M2 c2 rs2, e = .returned (.tuple #[.agg #[.int .i64 n, .slice (some ⟨Ke, 0, none⟩) key.length kd, .int .i64 b, .int .i64 now, .slice (some ⟨M, 0, none⟩) rs.length c], .agg #[.int .i64 n, .slice (some ⟨K2, 0, none⟩) key.length kd2, .int .i64 now, .slice (some ⟨M2, 0, none⟩) rs2.length c2]]) ∧ GB w.heap.size w' Ke key M 0 rs ∧ AB w.heap.size w' M c rs ∧ pals rs = leftTo P now P.length ∧ GB w.heap.size w' K2 key M2 0 rs2 ∧ AB w.heap.size w' M2 c2 rs2 ∧ pals rs2 = P) ∧ Below w.heap.size w w' := by
  have HK : Hid (Reads w (some ⟨gk, ok, none⟩) key) := hk
  have HR : Hid (RdN w a P ∧ LenM P) := ⟨hr, hs⟩
  clear hk hr hs
  obtain ⟨i0, hi, hz0, hz1, hz2⟩ := info_parts infoA
  generalize hW0 : ((w.alloc (.cells #[.int .i64 n, .slice (some ⟨gk, ok, none⟩) key.length kc, .int .i64 b, .int .i64 t, .slice a P.length cap] 53)).alloc (.cells #[.int .i64 0, .slice none 0 0, .int .i64 0, .int .i64 0, .slice none 0 0] 53)).alloc (.cells #[.int .i64 0, .slice none 0 0, .int .i64 0, .slice none 0 0] 37) = W0
  have HB0 : Hid (Below w.heap.size w W0) := by rw [← hW0]; exact Alm.below3 w _ _ _
  have BP0 : Hid (Blk W0 w.heap.size #[.int .i64 n, .slice (some ⟨gk, ok, none⟩) key.length kc, .int .i64 b, .int .i64 t, .slice a P.length cap] 53) := by rw [← hW0]; exact ((Blk.new _ _ _).alloc _).alloc _
  have BR0 : Hid (Blk W0 (w.heap.size + 1) #[.int .i64 0, .slice none 0 0, .int .i64 0, .int .i64 0, .slice none 0 0] 53) := by rw [← hW0]; exact (Blk.new_at (by simp)).alloc _
  have BS0 : Hid (Blk W0 (w.heap.size + 1 + 1) #[.int .i64 0, .slice none 0 0, .int .i64 0, .slice none 0 0] 37) := by rw [← hW0]; exact Blk.new_at (by simp)
  have HZ : Hid (W0.heap.size = w.heap.size + 3) := by show _ = _; rw [← hW0]; simp
  go_enter Tryz.func40, Tryz.ntmps40
  go_upto_region 1 with fail
  clear hW0
  have p0 := BP0.out.cell 0
  have p1 := BP0.out.cell 1
  have p2 := BP0.out.cell 2
  have p3 := BP0.out.cell 3
  have p4 := BP0.out.cell 4
  simp at p0 p1 p2 p3 p4
  go_wp2_with fail
  refine (l11Copy_any n b t gk ok kc key a cap P _ (HK.out.below HB0.out) hkl (HR.out.1.below HB0.out) hl HR.out.2).mono ?_
  rintro e w1 ⟨⟨Ke, kd, M0, c0, rs0, rfl, hG, hA, hP⟩, hb⟩
  have BP1 : Hid (Blk w1 w.heap.size #[.int .i64 n, .slice (some ⟨gk, ok, none⟩) key.length kc, .int .i64 b, .int .i64 t, .slice a P.length cap] 53) := BP0.out.grow hb
  have BR1 : Hid (Blk w1 (w.heap.size + 1) #[.int .i64 0, .slice none 0 0, .int .i64 0, .int .i64 0, .slice none 0 0] 53) := BR0.out.grow hb
  have BS1 : Hid (Blk w1 (w.heap.size + 1 + 1) #[.int .i64 0, .slice none 0 0, .int .i64 0, .slice none 0 0] 37) := BS0.out.grow hb
  have HK1 : Hid (OwnL (w.heap.size + 3) w1 Ke key) := hG.key.down (by rw [HZ.out]; exact Nat.le_refl _)
  have HB1 : Hid (Below w.heap.size w w1) := grow_on HB0.out hb
  have HL1 : Hid (w.heap.size + 3 ≤ w1.heap.size) := by unfold Hid; have := hb.size; rw [HZ.out] at this; exact this
  clear hG hA hP hb p0 p1 p2 p3 p4
  go_upto_region 4 with fail
  
  have HM0 : Hid (MidF w #[.int .i64 n, .slice (some ⟨gk, ok, none⟩) key.length kc, .int .i64 b, .int .i64 t, .slice a P.length cap] w1.heap.size n b now Ke kd key ((w1.alloc (.cells #[.int .i64 n, .slice (some ⟨Ke, 0, none⟩) key.length kd, .int .i64 b, .int .i64 now, .slice (some ⟨w1.heap.size + 1, 0, none⟩) 0 0] 53)).alloc (.cells #[] 27)) (w1.heap.size + 1) 0 []) := by
    have hb := Go.Joins.below_alloc2 w1 (.cells #[.int .i64 n, .slice (some ⟨Ke, 0, none⟩) key.length kd, .int .i64 b, .int .i64 now, .slice (some ⟨w1.heap.size + 1, 0, none⟩) 0 0] 53) (.cells #[] 27)
    refine ⟨BP1.out.grow hb, BR1.out.grow hb, BS1.out.grow hb, (Blk.new _ _ _).alloc _, ⟨by have := HL1.out; omega, by simp; omega⟩, HK1.out.grow hb, AB.nil (Blk.new_at (by simp)) (by have := HL1.out; omega), fun h => ?_, grow_on HB1.out hb⟩
    rcases h with e | ⟨x, hx, _⟩
    · have := HK1.out.lt; omega
    · simp at hx
  have HP0 : Hid (pals [] = leftTo P now 0) := by unfold Hid leftTo; simp [pals]
  have HKO : Hid (Ke < w1.heap.size) := HK1.out.lt
  clear BP0 BR0 BS0 HZ HB0 BP1 BR1 BS1 HK1 HB1
  generalize w1.heap.size = O at *
  generalize hW : (w1.alloc (.cells #[.int .i64 n, .slice (some ⟨Ke, 0, none⟩) key.length kd, .int .i64 b, .int .i64 now, .slice (some ⟨O + 1, 0, none⟩) 0 0] 53)).alloc (.cells #[] 27) = W at *
  clear hW
  go_wp2
  go_loopw [7] (fun i w' => ∃ (k M c : Nat) (rs : List ARow), i = .int .i64 k ∧ k ≤ P.length ∧ MidF w #[.int .i64 n, .slice (some ⟨gk, ok, none⟩) key.length kc, .int .i64 b, .int .i64 t, .slice a P.length cap] O n b now Ke kd key w' M c rs ∧ pals rs = leftTo P now k) (fun i _ => P.length - (intOf i).toNat)
  case atStart => exact ⟨0, O + 1, 0, [], rfl, Nat.zero_le _, HM0.out, HP0.out⟩
  case round =>
    clear HM0 HP0
    obtain ⟨k, M, c, rs, rfl, hk, hm, hp⟩ := hrel
    have HM : Hid (MidF w #[.int .i64 n, .slice (some ⟨gk, ok, none⟩) key.length kc, .int .i64 b, .int .i64 t, .slice a P.length cap] O n b now Ke kd key wr M c rs) := hm
    have HP : Hid (pals rs = leftTo P now k) := hp
    have hl1 : rs.length ≤ 1048576 := by have := left_le (now := now) hk; rw [← hp, pals_len] at this; omega
    have q4 : wr.cell? ⟨w.heap.size, 4, none⟩ = some (.slice a P.length cap) := hm.bp.cell 4
    clear hm hp
    by_cases hlt : k < P.length
    · have hlt' : (k : Int) < (P.length : Int) := by omega
      obtain ⟨bb, off, rfl, hbb, g, o, cp, hat⟩ := (HR.out.1.below HM.out.below).get hlt
      have h2 := hat.c0
      have h3 := hat.c1
      have h4 := hat.c2
      have h5 := hat.c3
      have HV : ∀ y, Hid (Calls Tryz.prog 73 #[.agg #[.slice (some ⟨g, o, none⟩) (nthP P k).l.length cp, .int .i64 (nthP P k).s, .int .i64 (nthP P k).e, .string (nthP P k).n], .int .i64 now] y fun r w' => r = .returned (.bool (overB (nthP P k).e now)) ∧ Below y.heap.size y w') := fun y => specOver_any _ _ _ _ _ _
      have HRd : Hid (Reads wr (some ⟨g, o, none⟩) (nthP P k).l) := hat.reads
      cases hov : overB (nthP P k).e now with
      | true =>
        rw [hov] at HV
        have HE : Hid (leftTo P now (k + 1) = leftTo P now k) := left_o hlt hov
        clear hov hat
        go_wp2_with fail
        refine (HV _).out.mono ?_
        rintro e w2 ⟨rfl, hb2⟩
        have HM2 : Hid (MidF w #[.int .i64 n, .slice (some ⟨gk, ok, none⟩) key.length kc, .int .i64 b, .int .i64 t, .slice (some ⟨bb, off, none⟩) P.length cap] O n b now Ke kd key w2 M c rs) := HM.out.grow hb2
        clear hb2 h2 h3 h4 h5 q4 HV
        go_wp2
        go_roundw
        case rel => exact ⟨k + 1, M, c, rs, by go_num, by omega, HM2.out, HP.out.trans HE.out.symm⟩
        case measure => simp [intOf]; omega
      | false =>
        rw [hov] at HV
        have HE : Hid (leftTo P now (k + 1) = leftTo P now k ++ [nthP P k]) := left_k hlt hov
        clear hov
        go_wp2_with fail
        refine (HV _).out.mono ?_
        rintro e w2 ⟨rfl, hb2⟩
        have HM2 : Hid (MidF w #[.int .i64 n, .slice (some ⟨gk, ok, none⟩) key.length kc, .int .i64 b, .int .i64 t, .slice (some ⟨bb, off, none⟩) P.length cap] O n b now Ke kd key w2 M c rs) := HM.out.grow hb2
        have hat2 := hat.below hb2 hbb
        have g2 := hat2.c0
        have g3 := hat2.c1
        have g4 := hat2.c2
        have g5 := hat2.c3
        have q4' : w2.cell? ⟨w.heap.size, 4, none⟩ = some (.slice (some ⟨bb, off, none⟩) P.length cap) := HM2.out.bp.cell 4
        have HC : Hid (Calls Tryz.prog 37 #[.agg #[.slice (some ⟨g, o, none⟩) (nthP P k).l.length cp, .int .i64 (nthP P k).s, .int .i64 (nthP P k).e, .string (nthP P k).n]] w2 fun r w' => (∃ Mx c, r = .returned (.agg #[.slice (some ⟨Mx, 0, none⟩) (nthP P k).l.length c, .int .i64 (nthP P k).s, .int .i64 (nthP P k).e, .string (nthP P k).n]) ∧ LabR.Own w2 w' Mx (nthP P k).l) ∧ Below w2.heap.size w2 w') := copyS_any _ _ _ _ _ _ _ w2 hat2.reads (HR.out.2 k hlt)
        clear hat hat2 hb2 h2 h3 h4 h5 q4 HV HM
        go_wp2_with fail
        refine HC.out.mono ?_
        rintro e w3 ⟨⟨Mx, cx, rfl, hO⟩, hb3⟩
        have HM3 : Hid (MidF w #[.int .i64 n, .slice (some ⟨gk, ok, none⟩) key.length kc, .int .i64 b, .int .i64 t, .slice (some ⟨bb, off, none⟩) P.length cap] O n b now Ke kd key w3 M c rs) := HM2.out.grow hb3
        have HO3 : Hid (OwnA (w.heap.size + 3) w3 (Mx, cx, nthP P k) ∧ w2.heap.size ≤ Mx) := ⟨(own_of_copy hO (HR.out.2 k hlt)).down (by have := HM2.out.ord; omega), hO.1⟩
        clear hO g2 g3 g4 g5 q4' HC
        go_upto_region 9 with fail
        generalize hW4 : w3.alloc (.cells #[.slice (some ⟨Mx, 0, none⟩) (nthP P k).l.length cx, .int .i64 (nthP P k).s, .int .i64 (nthP P k).e, .string (nthP P k).n] 27) = w4
        have hb4 : Below w3.heap.size w3 w4 := by rw [← hW4]; exact Go.Joins.below_alloc1 w3 _
        have XB : Hid (Blk w4 w3.heap.size #[.slice (some ⟨Mx, 0, none⟩) (nthP P k).l.length cx, .int .i64 (nthP P k).s, .int .i64 (nthP P k).e, .string (nthP P k).n] 27) := by rw [← hW4]; exact Blk.new _ _ _
        have HM4 : Hid (MidF w #[.int .i64 n, .slice (some ⟨gk, ok, none⟩) key.length kc, .int .i64 b, .int .i64 t, .slice (some ⟨bb, off, none⟩) P.length cap] O n b now Ke kd key w4 M c rs) := HM3.out.grow hb4
        have HO4 : Hid (OwnA (w.heap.size + 3) w4 (Mx, cx, nthP P k)) := HO3.out.1.grow hb4
        have HNE : Hid (∀ y ∈ rs, y.1 ≠ Mx) := fun y hy => by have := (HM2.out.ab.rows y hy).lt; have := HO3.out.2; show y.1 ≠ Mx; omega
        have HKX : Hid (Ke ≠ Mx ∧ Ke < w2.heap.size) := by have := HM2.out.key.lt; have := HO3.out.2; exact ⟨by omega, HM2.out.key.lt⟩
        clear hW4 hb4 HM3 HO3
        have d4 : w4.cell? ⟨O, 4, none⟩ = some (.slice (some ⟨M, 0, none⟩) rs.length c) := HM4.out.bo.cell 4
        have z0 : w4.cell? ⟨w3.heap.size, 0, none⟩ = some (.slice (some ⟨Mx, 0, none⟩) (nthP P k).l.length cx) := XB.out.cell 0
        have z1 : w4.cell? ⟨w3.heap.size, 1, none⟩ = some (.int .i64 (nthP P k).s) := XB.out.cell 1
        have z2 : w4.cell? ⟨w3.heap.size, 2, none⟩ = some (.int .i64 (nthP P k).e) := XB.out.cell 2
        have z3 : w4.cell? ⟨w3.heap.size, 3, none⟩ = some (.string (nthP P k).n) := XB.out.cell 3
        obtain ⟨xs, hox, hxl, hxs⟩ := HM4.out.ab.own
        have HOX : Hid (∀ o1, (w4.alloc o1).ownsRow (w.heap.size + 3) 27 4 (.slice (some ⟨M, 0, none⟩) rs.length c) rs.length xs) := fun o1 => own_grow hox (Go.Joins.below_alloc1 w4 o1)
        have HXS : Hid (xs.length = rs.length * 4 ∧ ∀ i, i < rs.length → Four (fun k => xs[k]?) i (nthA rs i)) := ⟨hxl, hxs⟩
        clear hox hxl hxs
        go_wp2_with (at_builtin; refine wpList_append_own_at _ rfl _ _ 35 rfl (w.heap.size + 3) 27 i0 (.agg #[.slice none 0 0, .int .i64 0, .int .i64 0, .string ByteArray.empty]) 4 56 Tryz.underlying35 hi hz0 hz1 hz2 rfl (by decide) _ _ _ rfl (HOX.out _) ⟨w4.heap.size, 0, none⟩ 1 1 (rowV (Mx, cx, nthP P k)) rfl rfl ?c1 (row_one _) ?c3 ?c4 ?c5 ?_)
        case c1 => exact blk_news (Blk.new _ _ _)
        case c3 => unfold maxLen; omega
        case c4 => omega
        case c5 => have := HM4.out.ord; simp; omega
        intro v' w5 hown hg hnil hat
        have hU := Go.Joins.below_alloc1 w4 (.cells #[.slice (some ⟨Mx, 0, none⟩) (nthP P k).l.length cx, .int .i64 (nthP P k).s, .int .i64 (nthP P k).e, .string (nthP P k).n] 27)
        obtain ⟨cu, hcu, _⟩ := (HM4.out.ab.grow hU).outer
        have hat2 : v'.ownBlock = some M ∨ v'.ownBlock = some (w4.heap.size + 1) := by
          rcases hat with h | h
          · exact .inl h
          · exact .inr (by first | rw [h] | (rw [h]; simp))
        obtain ⟨M5, c5, rfl, hAB5⟩ := (HM4.out.ab.grow hU).app (HO4.out.grow hU) HNE.out HXS.out.1 HXS.out.2 hown hg
        have HM5 : Hid (M5 = M ∨ M5 = w4.heap.size + 1) := hat2.imp Option.some.inj Option.some.inj
        have HAB5 : Hid (AB (w.heap.size + 3) w5 M5 c5 (rs ++ [(Mx, cx, nthP P k)])) := hAB5
        have B0 : Hid (Blk w5 w.heap.size #[.int .i64 n, .slice (some ⟨gk, ok, none⟩) key.length kc, .int .i64 b, .int .i64 t, .slice (some ⟨bb, off, none⟩) P.length cap] 53) := blk_far (HM4.out.bp.grow hU) hg (fun e => ne_blk (HM4.out.bp.grow hU) hcu (by decide) (Option.some.inj e))
        have B1 : Hid (Blk w5 (w.heap.size + 1) #[.int .i64 0, .slice none 0 0, .int .i64 0, .int .i64 0, .slice none 0 0] 53) := blk_far (HM4.out.br.grow hU) hg (fun e => ne_blk (HM4.out.br.grow hU) hcu (by decide) (Option.some.inj e))
        have B2 : Hid (Blk w5 (w.heap.size + 1 + 1) #[.int .i64 0, .slice none 0 0, .int .i64 0, .slice none 0 0] 37) := blk_far (HM4.out.bs.grow hU) hg (fun e => ne_blk (HM4.out.bs.grow hU) hcu (by decide) (Option.some.inj e))
        have B3 : Hid (Blk w5 O #[.int .i64 n, .slice (some ⟨Ke, 0, none⟩) key.length kd, .int .i64 b, .int .i64 now, .slice (some ⟨M, 0, none⟩) rs.length c] 53) := blk_far (HM4.out.bo.grow hU) hg (fun e => ne_blk (HM4.out.bo.grow hU) hcu (by decide) (Option.some.inj e))
        have HK5 : Hid (OwnL (w.heap.size + 3) w5 Ke key) := by
          obtain ⟨h0, ds, h1, h2⟩ := HM4.out.key.grow hU
          exact ⟨h0, ds, blk_far h1 hg (fun e => blkA_ne hcu h1 (Option.some.inj e).symm), h2⟩
        have HB5 : Hid (Below w.heap.size w w5) := (grow_on HM4.out.below hU).grown hg (by have := HM4.out.below.size; simp; omega) (fun k e => by have h : M = k := Option.some.inj e; have := HM4.out.ab.at'; omega)
        have HO5 : Hid (w.heap.size + 2 < O ∧ O < w5.heap.size) := ⟨HM4.out.ord.1, by have h1 := hg.size; have h2 := HM4.out.ord.2; simp at h1; omega⟩
        have HN5 : Hid (¬ blks M5 (rs ++ [(Mx, cx, nthP P k)]) Ke) := fun h => by
          have h4 := HM4.out.key.lt
          rcases h with e | ⟨x, hx, e⟩
          · rcases HM5.out with h5 | h5
            · exact HM4.out.ne (.inl (e.trans h5))
            · omega
          · rcases List.mem_append.1 hx with hx | hx
            · exact HM4.out.ne (.inr ⟨x, hx, e⟩)
            · rw [List.mem_singleton.1 hx] at e; exact HKX.out.1 e.symm
        have HL5 : Hid ((rs ++ [(Mx, cx, nthP P k)]).length = rs.length + 1) := by show _ = _; simp
        clear hown hg hnil hat hat2 hAB5 hcu hU z0 z1 z2 z3 d4
        have d4 : w5.cell? ⟨O, 4, none⟩ = some (.slice (some ⟨M, 0, none⟩) rs.length c) := B3.out.cell 4
        have fd4 := B3.out.frozen 4
        have HMid : Hid (MidF w #[.int .i64 n, .slice (some ⟨gk, ok, none⟩) key.length kc, .int .i64 b, .int .i64 t, .slice (some ⟨bb, off, none⟩) P.length cap] O n b now Ke kd key (w5.setCell ⟨O, 4, none⟩ (.slice (some ⟨M5, 0, none⟩) (rs.length + 1) c5)) M5 c5 (rs ++ [(Mx, cx, nthP P k)])) := by
          have hm := Moved.set B3.out (by decide) (by decide) 4 (.slice (some ⟨M5, 0, none⟩) (rs.length + 1) c5)
          have ho := HO5.out
          refine ⟨B0.out.set_other (by show O ≠ w.heap.size; omega) _, B1.out.set_other (by show O ≠ (w.heap.size + 1); omega) _, B2.out.set_other (by show O ≠ (w.heap.size + 1 + 1); omega) _, ?_, ⟨ho.1, by simpa using ho.2⟩, OwnL.moved HK5.out hm, Chs.ab_moved HAB5.out hm, HN5.out, set_low HB5.out (by omega) _ _⟩
          have := B3.out.set 4 (.slice (some ⟨M5, 0, none⟩) (rs.length + 1) c5)
          rw [HL5.out]
          exact this
        go_wp2
        go_roundw
        case rel => exact ⟨k + 1, M5, c5, _, by go_num, by omega, HMid.out, by rw [pals_app, HP.out, HE.out]⟩
        case measure => simp [intOf]; omega
    · have hge : ¬ (k : Int) < (P.length : Int) := by omega
      have HF : Hid (pals rs = leftTo P now P.length) := by
        have e : k = P.length := by omega
        have := HP.out
        rwa [e] at this
      clear HP
      go_upto_region 10 with fail
      have HZ1 : Hid (w.heap.size + 3 ≤ wr.heap.size) := by have := HM.out.ord; show _ ≤ _; omega
      clear q4 hge
      have HS : Hid (∀ w', Blk w' w.heap.size #[.int .i64 n, .slice (some ⟨gk, ok, none⟩) key.length kc, .int .i64 b, .int .i64 t, .slice a P.length cap] 53 → Blk w' O #[.int .i64 n, .slice (some ⟨Ke, 0, none⟩) key.length kd, .int .i64 b, .int .i64 now, .slice (some ⟨M, 0, none⟩) rs.length c] 53 → w'.cell? ⟨w.heap.size, 0, none⟩ = some (.int .i64 n) ∧ w'.cell? ⟨w.heap.size, 1, none⟩ = some (.slice (some ⟨gk, ok, none⟩) key.length kc) ∧ w'.cell? ⟨w.heap.size, 2, none⟩ = some (.int .i64 b) ∧ w'.cell? ⟨w.heap.size, 3, none⟩ = some (.int .i64 t) ∧ w'.cell? ⟨w.heap.size, 4, none⟩ = some (.slice a P.length cap) ∧ w'.cell? ⟨O, 0, none⟩ = some (.int .i64 n) ∧ w'.cell? ⟨O, 1, none⟩ = some (.slice (some ⟨Ke, 0, none⟩) key.length kd) ∧ w'.cell? ⟨O, 2, none⟩ = some (.int .i64 b) ∧ w'.cell? ⟨O, 3, none⟩ = some (.int .i64 now) ∧ w'.cell? ⟨O, 4, none⟩ = some (.slice (some ⟨M, 0, none⟩) rs.length c)) := fun w' h k => ⟨h.cell 0, h.cell 1, h.cell 2, h.cell 3, h.cell 4, k.cell 0, k.cell 1, k.cell 2, k.cell 3, k.cell 4⟩
      refine wp_region_held_drew (S := fun w' => w'.cell? ⟨w.heap.size, 0, none⟩ = some (.int .i64 n) ∧ w'.cell? ⟨w.heap.size, 1, none⟩ = some (.slice (some ⟨gk, ok, none⟩) key.length kc) ∧ w'.cell? ⟨w.heap.size, 2, none⟩ = some (.int .i64 b) ∧ w'.cell? ⟨w.heap.size, 3, none⟩ = some (.int .i64 t) ∧ w'.cell? ⟨w.heap.size, 4, none⟩ = some (.slice a P.length cap) ∧ w'.cell? ⟨O, 0, none⟩ = some (.int .i64 n) ∧ w'.cell? ⟨O, 1, none⟩ = some (.slice (some ⟨Ke, 0, none⟩) key.length kd) ∧ w'.cell? ⟨O, 2, none⟩ = some (.int .i64 b) ∧ w'.cell? ⟨O, 3, none⟩ = some (.int .i64 now) ∧ w'.cell? ⟨O, 4, none⟩ = some (.slice (some ⟨M, 0, none⟩) rs.length c)) (by kernel_rfl) (HS.out _ HM.out.bp.drew HM.out.bo.drew) (fun hHeld => ?_)
      refine tk 0 ⟨some 42, .load 53 (.tmp 6), 53, "l11_group.go:61", #[], none⟩ hHeld ?_
      try go_frame
      refine tk 1 ⟨some 43, .fieldAddr 53 (.tmp 2) 0, 0, "l11_group.go:61", #[], none⟩ hHeld ?_
      try go_frame
      refine tk 2 ⟨some 44, .load 3 (.tmp 43), 3, "l11_group.go:61", #[⟨1, .data⟩], none⟩ hHeld ?_
      try go_frame
      refine tk 3 ⟨some 45, .fieldAddr 53 (.tmp 2) 1, 0, "l11_group.go:61", #[], none⟩ hHeld ?_
      try go_frame
      refine tk 4 ⟨some 46, .load 25 (.tmp 45), 25, "l11_group.go:61", #[⟨3, .data⟩], none⟩ hHeld ?_
      try go_frame
      refine tk 5 ⟨some 47, .move (.tmp 1), 3, "l11_group.go:61", #[], none⟩ hHeld ?_
      try go_frame
      refine tk 6 ⟨some 48, .fieldAddr 53 (.tmp 2) 4, 0, "l11_group.go:61", #[], none⟩ hHeld ?_
      try go_frame
      refine tk 7 ⟨some 49, .load 35 (.tmp 48), 35, "l11_group.go:61", #[⟨6, .data⟩], none⟩ hHeld ?_
      try go_frame
      refine tk 8 ⟨some 50, .build 37 #[(0, .tmp 44), (1, .tmp 46), (2, .tmp 47), (3, .tmp 49)], 37, "l11_group.go:61", #[⟨2, .data⟩, ⟨4, .data⟩, ⟨5, .data⟩, ⟨7, .data⟩], none⟩ hHeld ?_
      try go_frame
      refine rd1 9 ⟨some 51, .call { callee := .value (.func 74), args := #[.tmp 50], argTypes := #[37] }, 37, "l11_group.go:61", #[⟨8, .data⟩], none⟩ (fun K hK => ?_)
      go_simp
      refine (l11Batch_any n now gk ok kc key a cap P _ (HK.out.below (grow_on HM.out.below (Below.refl _ _).drew)) hkl (HR.out.1.below (grow_on HM.out.below (Below.refl _ _).drew)) hl HR.out.2).mono ?_
      rintro r wyf9 ⟨⟨K2, kd2, M2, c2, rs2, rfl, hG2, hA2, hP2⟩, hb2⟩
      have hb3 : Below wr.heap.size wr wyf9 := grow_on (Below.refl _ _).drew hb2
      have H9 : Hid (MidF w #[.int .i64 n, .slice (some ⟨gk, ok, none⟩) key.length kc, .int .i64 b, .int .i64 t, .slice a P.length cap] O n b now Ke kd key wyf9 M c rs) := HM.out.grow hb3
      have HG9 : Hid (GB (w.heap.size + 3) wyf9 K2 key M2 0 rs2 ∧ AB (w.heap.size + 3) wyf9 M2 c2 rs2 ∧ pals rs2 = P) := ⟨hG2.down HZ1.out, hA2.down HZ1.out, hP2⟩
      clear hG2 hA2 hP2 hb2 hb3
      clear hHeld
      refine hK.out _ _ (HS.out _ H9.out.bp H9.out.bo) (fun hHeld => ?_)
      clear hK K
      try go_frame
      refine rd1 10 ⟨none, .store 53 (.tmp 4) (.tmp 42), 0, "l11_group.go:61", #[⟨0, .data⟩, ⟨9, .chain⟩, ⟨0, .phase⟩, ⟨1, .textOnly .lateStores⟩, ⟨2, .textOnly .lateStores⟩, ⟨3, .textOnly .lateStores⟩, ⟨4, .textOnly .lateStores⟩, ⟨5, .textOnly .lateStores⟩, ⟨6, .textOnly .lateStores⟩, ⟨7, .textOnly .lateStores⟩, ⟨8, .textOnly .lateStores⟩, ⟨9, .textOnly .lateStoresUnsure⟩], none⟩ (fun K hK => ?_)
      have r0 := H9.out.br.cell 0
      have fr0 := H9.out.br.frozen 0
      have r1 := H9.out.br.cell 1
      have fr1 := H9.out.br.frozen 1
      have r2 := H9.out.br.cell 2
      have fr2 := H9.out.br.frozen 2
      have r3 := H9.out.br.cell 3
      have fr3 := H9.out.br.frozen 3
      have r4 := H9.out.br.cell 4
      have fr4 := H9.out.br.frozen 4
      simp at r0 r1 r2 r3 r4
      go_simp
      clear hHeld
      refine hK.out _ _ (HS.out _ (((((H9.out.bp.set_other (p := ⟨(w.heap.size + 1), 0, none⟩) (by show (w.heap.size + 1) ≠ _; have := H9.out.ord; omega) (.int .i64 n)).set_other (p := ⟨(w.heap.size + 1), 1, none⟩) (by show (w.heap.size + 1) ≠ _; have := H9.out.ord; omega) (.slice (some ⟨Ke, 0, none⟩) key.length kd)).set_other (p := ⟨(w.heap.size + 1), 2, none⟩) (by show (w.heap.size + 1) ≠ _; have := H9.out.ord; omega) (.int .i64 b)).set_other (p := ⟨(w.heap.size + 1), 3, none⟩) (by show (w.heap.size + 1) ≠ _; have := H9.out.ord; omega) (.int .i64 now)).set_other (p := ⟨(w.heap.size + 1), 4, none⟩) (by show (w.heap.size + 1) ≠ _; have := H9.out.ord; omega) (.slice (some ⟨M, 0, none⟩) rs.length c)) (((((H9.out.bo.set_other (p := ⟨(w.heap.size + 1), 0, none⟩) (by show (w.heap.size + 1) ≠ _; have := H9.out.ord; omega) (.int .i64 n)).set_other (p := ⟨(w.heap.size + 1), 1, none⟩) (by show (w.heap.size + 1) ≠ _; have := H9.out.ord; omega) (.slice (some ⟨Ke, 0, none⟩) key.length kd)).set_other (p := ⟨(w.heap.size + 1), 2, none⟩) (by show (w.heap.size + 1) ≠ _; have := H9.out.ord; omega) (.int .i64 b)).set_other (p := ⟨(w.heap.size + 1), 3, none⟩) (by show (w.heap.size + 1) ≠ _; have := H9.out.ord; omega) (.int .i64 now)).set_other (p := ⟨(w.heap.size + 1), 4, none⟩) (by show (w.heap.size + 1) ≠ _; have := H9.out.ord; omega) (.slice (some ⟨M, 0, none⟩) rs.length c))) (fun hHeld => ?_)
      clear hK K
      try go_frame
      clear r0 fr0 r1 fr1 r2 fr2 r3 fr3 r4 fr4
      have HS1 : Hid (Blk (((((wyf9.setCell ⟨(w.heap.size + 1), 0, none⟩ (.int .i64 n)).setCell ⟨(w.heap.size + 1), 1, none⟩ (.slice (some ⟨Ke, 0, none⟩) key.length kd)).setCell ⟨(w.heap.size + 1), 2, none⟩ (.int .i64 b)).setCell ⟨(w.heap.size + 1), 3, none⟩ (.int .i64 now)).setCell ⟨(w.heap.size + 1), 4, none⟩ (.slice (some ⟨M, 0, none⟩) rs.length c)) (w.heap.size + 1 + 1) #[.int .i64 0, .slice none 0 0, .int .i64 0, .slice none 0 0] 37) := (((((H9.out.bs.set_other (p := ⟨(w.heap.size + 1), 0, none⟩) (by show (w.heap.size + 1) ≠ _; have := H9.out.ord; omega) (.int .i64 n)).set_other (p := ⟨(w.heap.size + 1), 1, none⟩) (by show (w.heap.size + 1) ≠ _; have := H9.out.ord; omega) (.slice (some ⟨Ke, 0, none⟩) key.length kd)).set_other (p := ⟨(w.heap.size + 1), 2, none⟩) (by show (w.heap.size + 1) ≠ _; have := H9.out.ord; omega) (.int .i64 b)).set_other (p := ⟨(w.heap.size + 1), 3, none⟩) (by show (w.heap.size + 1) ≠ _; have := H9.out.ord; omega) (.int .i64 now)).set_other (p := ⟨(w.heap.size + 1), 4, none⟩) (by show (w.heap.size + 1) ≠ _; have := H9.out.ord; omega) (.slice (some ⟨M, 0, none⟩) rs.length c))
      refine rd1 11 ⟨none, .store 37 (.tmp 5) (.tmp 51), 0, "l11_group.go:61", #[⟨9, .data⟩, ⟨10, .chain⟩, ⟨0, .phase⟩, ⟨1, .phase⟩, ⟨2, .phase⟩, ⟨3, .phase⟩, ⟨4, .phase⟩, ⟨5, .phase⟩, ⟨6, .phase⟩, ⟨7, .phase⟩, ⟨8, .phase⟩, ⟨9, .phase⟩, ⟨10, .phase⟩], none⟩ (fun K hK => ?_)
      have r0 := HS1.out.cell 0
      have fr0 := HS1.out.frozen 0
      have r1 := HS1.out.cell 1
      have fr1 := HS1.out.frozen 1
      have r2 := HS1.out.cell 2
      have fr2 := HS1.out.frozen 2
      have r3 := HS1.out.cell 3
      have fr3 := HS1.out.frozen 3
      simp at r0 r1 r2 r3
      go_simp
      clear hHeld
      refine hK.out _ _ (HS.out _ (((((((((H9.out.bp.set_other (p := ⟨(w.heap.size + 1), 0, none⟩) (by show (w.heap.size + 1) ≠ _; have := H9.out.ord; omega) (.int .i64 n)).set_other (p := ⟨(w.heap.size + 1), 1, none⟩) (by show (w.heap.size + 1) ≠ _; have := H9.out.ord; omega) (.slice (some ⟨Ke, 0, none⟩) key.length kd)).set_other (p := ⟨(w.heap.size + 1), 2, none⟩) (by show (w.heap.size + 1) ≠ _; have := H9.out.ord; omega) (.int .i64 b)).set_other (p := ⟨(w.heap.size + 1), 3, none⟩) (by show (w.heap.size + 1) ≠ _; have := H9.out.ord; omega) (.int .i64 now)).set_other (p := ⟨(w.heap.size + 1), 4, none⟩) (by show (w.heap.size + 1) ≠ _; have := H9.out.ord; omega) (.slice (some ⟨M, 0, none⟩) rs.length c)).set_other (p := ⟨(w.heap.size + 1 + 1), 0, none⟩) (by show (w.heap.size + 1 + 1) ≠ _; have := H9.out.ord; omega) (.int .i64 n)).set_other (p := ⟨(w.heap.size + 1 + 1), 1, none⟩) (by show (w.heap.size + 1 + 1) ≠ _; have := H9.out.ord; omega) (.slice (some ⟨K2, 0, none⟩) key.length kd2)).set_other (p := ⟨(w.heap.size + 1 + 1), 2, none⟩) (by show (w.heap.size + 1 + 1) ≠ _; have := H9.out.ord; omega) (.int .i64 now)).set_other (p := ⟨(w.heap.size + 1 + 1), 3, none⟩) (by show (w.heap.size + 1 + 1) ≠ _; have := H9.out.ord; omega) (.slice (some ⟨M2, 0, none⟩) rs2.length c2)) (((((((((H9.out.bo.set_other (p := ⟨(w.heap.size + 1), 0, none⟩) (by show (w.heap.size + 1) ≠ _; have := H9.out.ord; omega) (.int .i64 n)).set_other (p := ⟨(w.heap.size + 1), 1, none⟩) (by show (w.heap.size + 1) ≠ _; have := H9.out.ord; omega) (.slice (some ⟨Ke, 0, none⟩) key.length kd)).set_other (p := ⟨(w.heap.size + 1), 2, none⟩) (by show (w.heap.size + 1) ≠ _; have := H9.out.ord; omega) (.int .i64 b)).set_other (p := ⟨(w.heap.size + 1), 3, none⟩) (by show (w.heap.size + 1) ≠ _; have := H9.out.ord; omega) (.int .i64 now)).set_other (p := ⟨(w.heap.size + 1), 4, none⟩) (by show (w.heap.size + 1) ≠ _; have := H9.out.ord; omega) (.slice (some ⟨M, 0, none⟩) rs.length c)).set_other (p := ⟨(w.heap.size + 1 + 1), 0, none⟩) (by show (w.heap.size + 1 + 1) ≠ _; have := H9.out.ord; omega) (.int .i64 n)).set_other (p := ⟨(w.heap.size + 1 + 1), 1, none⟩) (by show (w.heap.size + 1 + 1) ≠ _; have := H9.out.ord; omega) (.slice (some ⟨K2, 0, none⟩) key.length kd2)).set_other (p := ⟨(w.heap.size + 1 + 1), 2, none⟩) (by show (w.heap.size + 1 + 1) ≠ _; have := H9.out.ord; omega) (.int .i64 now)).set_other (p := ⟨(w.heap.size + 1 + 1), 3, none⟩) (by show (w.heap.size + 1 + 1) ≠ _; have := H9.out.ord; omega) (.slice (some ⟨M2, 0, none⟩) rs2.length c2))) (fun hHeld => ?_)
      clear hK K
      try go_frame
      clear r0 fr0 r1 fr1 r2 fr2 r3 fr3
      refine wpAnyH_done (by kernel_rfl) ?_ _
      clear hHeld
      go_wp2_with fail
      have hR : Blk _ (w.heap.size + 1) #[.int .i64 n, .slice (some ⟨Ke, 0, none⟩) key.length kd, .int .i64 b, .int .i64 now, .slice (some ⟨M, 0, none⟩) rs.length c] 53 := (((((((((H9.out.br.set 0 (.int .i64 n)).set 1 (.slice (some ⟨Ke, 0, none⟩) key.length kd)).set 2 (.int .i64 b)).set 3 (.int .i64 now)).set 4 (.slice (some ⟨M, 0, none⟩) rs.length c)).set_other (p := ⟨(w.heap.size + 1 + 1), 0, none⟩) (by show (w.heap.size + 1 + 1) ≠ _; have := H9.out.ord; omega) (.int .i64 n)).set_other (p := ⟨(w.heap.size + 1 + 1), 1, none⟩) (by show (w.heap.size + 1 + 1) ≠ _; have := H9.out.ord; omega) (.slice (some ⟨K2, 0, none⟩) key.length kd2)).set_other (p := ⟨(w.heap.size + 1 + 1), 2, none⟩) (by show (w.heap.size + 1 + 1) ≠ _; have := H9.out.ord; omega) (.int .i64 now)).set_other (p := ⟨(w.heap.size + 1 + 1), 3, none⟩) (by show (w.heap.size + 1 + 1) ≠ _; have := H9.out.ord; omega) (.slice (some ⟨M2, 0, none⟩) rs2.length c2))
      have hS : Blk _ (w.heap.size + 1 + 1) #[.int .i64 n, .slice (some ⟨K2, 0, none⟩) key.length kd2, .int .i64 now, .slice (some ⟨M2, 0, none⟩) rs2.length c2] 37 := ((((HS1.out.set 0 (.int .i64 n)).set 1 (.slice (some ⟨K2, 0, none⟩) key.length kd2)).set 2 (.int .i64 now)).set 3 (.slice (some ⟨M2, 0, none⟩) rs2.length c2))
      have s0 := hR.cell 0
      have s1 := hR.cell 1
      have s2 := hR.cell 2
      have s3 := hR.cell 3
      have s4 := hR.cell 4
      have u0 := hS.cell 0
      have u1 := hS.cell 1
      have u2 := hS.cell 2
      have u3 := hS.cell 3
      refine bodyPost_ret (v := .tuple #[.agg #[.int .i64 n, .slice (some ⟨Ke, 0, none⟩) key.length kd, .int .i64 b, .int .i64 now, .slice (some ⟨M, 0, none⟩) rs.length c], .agg #[.int .i64 n, .slice (some ⟨K2, 0, none⟩) key.length kd2, .int .i64 now, .slice (some ⟨M2, 0, none⟩) rs2.length c2]]) (by simp [results, Tryz.results40, go_sem, s0, s1, s2, s3, s4, u0, u1, u2, u3]) rfl ?_
      have hab := (DrawC.ab_under (DrawC.ab_under (DrawC.ab_under (DrawC.ab_under (DrawC.ab_under (DrawC.ab_under (DrawC.ab_under (DrawC.ab_under (DrawC.ab_under H9.out.ab (A := (w.heap.size + 1)) (by omega) 0 (.int .i64 n)) (A := (w.heap.size + 1)) (by omega) 1 (.slice (some ⟨Ke, 0, none⟩) key.length kd)) (A := (w.heap.size + 1)) (by omega) 2 (.int .i64 b)) (A := (w.heap.size + 1)) (by omega) 3 (.int .i64 now)) (A := (w.heap.size + 1)) (by omega) 4 (.slice (some ⟨M, 0, none⟩) rs.length c)) (A := (w.heap.size + 1 + 1)) (by omega) 0 (.int .i64 n)) (A := (w.heap.size + 1 + 1)) (by omega) 1 (.slice (some ⟨K2, 0, none⟩) key.length kd2)) (A := (w.heap.size + 1 + 1)) (by omega) 2 (.int .i64 now)) (A := (w.heap.size + 1 + 1)) (by omega) 3 (.slice (some ⟨M2, 0, none⟩) rs2.length c2))
      have hab2 := (DrawC.ab_under (DrawC.ab_under (DrawC.ab_under (DrawC.ab_under (DrawC.ab_under (DrawC.ab_under (DrawC.ab_under (DrawC.ab_under (DrawC.ab_under HG9.out.2.1 (A := (w.heap.size + 1)) (by omega) 0 (.int .i64 n)) (A := (w.heap.size + 1)) (by omega) 1 (.slice (some ⟨Ke, 0, none⟩) key.length kd)) (A := (w.heap.size + 1)) (by omega) 2 (.int .i64 b)) (A := (w.heap.size + 1)) (by omega) 3 (.int .i64 now)) (A := (w.heap.size + 1)) (by omega) 4 (.slice (some ⟨M, 0, none⟩) rs.length c)) (A := (w.heap.size + 1 + 1)) (by omega) 0 (.int .i64 n)) (A := (w.heap.size + 1 + 1)) (by omega) 1 (.slice (some ⟨K2, 0, none⟩) key.length kd2)) (A := (w.heap.size + 1 + 1)) (by omega) 2 (.int .i64 now)) (A := (w.heap.size + 1 + 1)) (by omega) 3 (.slice (some ⟨M2, 0, none⟩) rs2.length c2))
      exact ⟨⟨Ke, kd, M, c, rs, K2, kd2, M2, c2, rs2, rfl, ⟨((((((((((H9.out.key.set (R := (w.heap.size + 1)) (by have := H9.out.key.1; omega) 0 (.int .i64 n)).set (R := (w.heap.size + 1)) (by have := H9.out.key.1; omega) 1 (.slice (some ⟨Ke, 0, none⟩) key.length kd)).set (R := (w.heap.size + 1)) (by have := H9.out.key.1; omega) 2 (.int .i64 b)).set (R := (w.heap.size + 1)) (by have := H9.out.key.1; omega) 3 (.int .i64 now)).set (R := (w.heap.size + 1)) (by have := H9.out.key.1; omega) 4 (.slice (some ⟨M, 0, none⟩) rs.length c)).set (R := (w.heap.size + 1 + 1)) (by have := H9.out.key.1; omega) 0 (.int .i64 n)).set (R := (w.heap.size + 1 + 1)) (by have := H9.out.key.1; omega) 1 (.slice (some ⟨K2, 0, none⟩) key.length kd2)).set (R := (w.heap.size + 1 + 1)) (by have := H9.out.key.1; omega) 2 (.int .i64 now)).set (R := (w.heap.size + 1 + 1)) (by have := H9.out.key.1; omega) 3 (.slice (some ⟨M2, 0, none⟩) rs2.length c2))).down (by omega), AO.down (AB.ao hab) (by omega), H9.out.ne⟩, hab.down (by omega), HF.out, ⟨((((((((((HG9.out.1.key.set (R := (w.heap.size + 1)) (by have := HG9.out.1.key.1; omega) 0 (.int .i64 n)).set (R := (w.heap.size + 1)) (by have := HG9.out.1.key.1; omega) 1 (.slice (some ⟨Ke, 0, none⟩) key.length kd)).set (R := (w.heap.size + 1)) (by have := HG9.out.1.key.1; omega) 2 (.int .i64 b)).set (R := (w.heap.size + 1)) (by have := HG9.out.1.key.1; omega) 3 (.int .i64 now)).set (R := (w.heap.size + 1)) (by have := HG9.out.1.key.1; omega) 4 (.slice (some ⟨M, 0, none⟩) rs.length c)).set (R := (w.heap.size + 1 + 1)) (by have := HG9.out.1.key.1; omega) 0 (.int .i64 n)).set (R := (w.heap.size + 1 + 1)) (by have := HG9.out.1.key.1; omega) 1 (.slice (some ⟨K2, 0, none⟩) key.length kd2)).set (R := (w.heap.size + 1 + 1)) (by have := HG9.out.1.key.1; omega) 2 (.int .i64 now)).set (R := (w.heap.size + 1 + 1)) (by have := HG9.out.1.key.1; omega) 3 (.slice (some ⟨M2, 0, none⟩) rs2.length c2))).down (by omega), AO.down (AB.ao hab2) (by omega), HG9.out.1.ne⟩, hab2.down (by omega), HG9.out.2.2⟩, (set_low (set_low (set_low (set_low (set_low (set_low (set_low (set_low (set_low H9.out.below (M := (w.heap.size + 1)) (by omega) 0 (.int .i64 n)) (M := (w.heap.size + 1)) (by omega) 1 (.slice (some ⟨Ke, 0, none⟩) key.length kd)) (M := (w.heap.size + 1)) (by omega) 2 (.int .i64 b)) (M := (w.heap.size + 1)) (by omega) 3 (.int .i64 now)) (M := (w.heap.size + 1)) (by omega) 4 (.slice (some ⟨M, 0, none⟩) rs.length c)) (M := (w.heap.size + 1 + 1)) (by omega) 0 (.int .i64 n)) (M := (w.heap.size + 1 + 1)) (by omega) 1 (.slice (some ⟨K2, 0, none⟩) key.length kd2)) (M := (w.heap.size + 1 + 1)) (by omega) 2 (.int .i64 now)) (M := (w.heap.size + 1 + 1)) (by omega) 3 (.slice (some ⟨M2, 0, none⟩) rs2.length c2))⟩
end Go.Proofs.YtgncimlojbnbfaaGreat.GrpF
