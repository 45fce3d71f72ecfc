/-
  PROVED: spec.Flush answers a group without what is over, and a batch of all, in memory of their own; nothing that was there is changed.
-/
import Derived.Test.YtgncimlojbnbfaaGrpC
import Derived.Deep.RegionHeld3
namespace Go.Proofs.Ytgncimlojbnbfaa.GrpF
open Go.RowKit
open Go.Proofs.Ytgncimlojbnbfaa.Labs Go.Proofs.Ytgncimlojbnbfaa.LabS Go.Proofs.Ytgncimlojbnbfaa.Alms Go.Proofs.Ytgncimlojbnbfaa.AlmS Go.Proofs.Ytgncimlojbnbfaa.AlmM Go.Proofs.Ytgncimlojbnbfaa.Over Go.Proofs.Ytgncimlojbnbfaa.Blk Go.Proofs.Ytgncimlojbnbfaa.App Go.Proofs.Ytgncimlojbnbfaa.Rws Go.Proofs.Ytgncimlojbnbfaa.ChnI Go.Proofs.Ytgncimlojbnbfaa.ChnC Go.Proofs.Ytgncimlojbnbfaa.ChnK Go.Proofs.Ytgncimlojbnbfaa.Chs Go.Proofs.Ytgncimlojbnbfaa.Grp Go.Proofs.Ytgncimlojbnbfaa.GrpC
open Go.Proofs.Ytgncimlojbnbfaa.ChnP (own_grow)
set_option linter.unusedVariables false
theorem left_o {P : List PAl} {now : Int} {k : Nat} (h : k < P.length) (ho : overB (nthP P k).e now = true) : leftTo P now (k + 1) = leftTo P now k := by rw [left_up h, if_pos ho]; simp
theorem left_k {P : List PAl} {now : Int} {k : Nat} (h : k < P.length) (ho : overB (nthP P k).e now = false) : leftTo P now (k + 1) = leftTo P now k ++ [nthP P k] := by rw [left_up h, ho]; simp
theorem left_le {P : List PAl} {now : Int} {k : Nat} (h : k ≤ P.length) : (leftTo P now k).length ≤ P.length := by
  have h1 := drop_len P now k
  have h2 : (P.take k).length ≤ P.length := by simp; omega
  omega
theorem OwnL.moved {lo : Nat} {w w' : World} {Ke : Nat} {key : List Lab} (h : OwnL lo w Ke key) (hm : Moved w w') : OwnL lo w' Ke key := by
  obtain ⟨h0, cs, h1, h2⟩ := h
  exact ⟨h0, cs, hm.L h1, h2⟩
/-- what is so between two rounds -/
structure MidF (w : World) (C : Array Value) (O : Nat) (n b now : Int) (Ke kd : Nat) (key : List Lab) (W : World) (M c : Nat) (rs : List ARow) : Prop where
  bp : Blk W w.heap.size C 67
  br : Blk W (w.heap.size + 1) #[.int .i64 0, .slice none 0 0, .int .i64 0, .int .i64 0, .slice none 0 0] 67
  bs : Blk W (w.heap.size + 1 + 1) #[.int .i64 0, .slice none 0 0, .int .i64 0, .slice none 0 0] 55
  bo : Blk W O #[.int .i64 n, .slice (some ⟨Ke, 0, none⟩) key.length kd, .int .i64 b, .int .i64 now, .slice (some ⟨M, 0, none⟩) rs.length c] 67
  ord : w.heap.size + 2 < O ∧ O < W.heap.size
  key : OwnL (w.heap.size + 3) W Ke key
  ab : AB (w.heap.size + 3) W M c rs
  ne : ¬ blks M rs Ke
  below : Below w.heap.size w W
theorem MidF.grow {w : World} {C : Array Value} {O : Nat} {n b now : Int} {Ke kd : Nat} {key : List Lab} {W W' : World} {M c : Nat} {rs : List ARow} (h : MidF w C O n b now Ke kd key W M c rs) (hb : Below W.heap.size W W') : MidF w C O n b now Ke kd key W' M c rs :=
  ⟨h.bp.grow hb, h.br.grow hb, h.bs.grow hb, h.bo.grow hb, ⟨h.ord.1, Nat.lt_of_lt_of_le h.ord.2 hb.size⟩, h.key.grow hb, h.ab.grow hb, h.ne, grow_on h.below hb⟩
theorem ne_blk {w : World} {x y : Nat} {cs ds : Array Value} {T U : TypeId} (h : Blk w x cs T) (k : Blk w y ds U) (hT : T ≠ U) : x ≠ y := fun e => by
  subst e
  unfold Blk at h k
  rw [h] at k
  cases k
  exact hT rfl
set_option maxRecDepth 100000 in
set_option maxHeartbeats 3200000 in
theorem specFlush_any (n b t : Int) (gk ok kc : Nat) (key : List Lab) (a : Option Addr) (cap : Nat) (P : List PAl) (now : Int) (w : World) (hk : Reads w (some ⟨gk, ok, none⟩) key) (hkl : key.length ≤ 1048576) (hr : RdN w a P) (hl : P.length ≤ 1048576) (hs : LenM P) :
    Calls Try.prog 63 #[.agg #[.int .i64 n, .slice (some ⟨gk, ok, none⟩) key.length kc, .int .i64 b, .int .i64 t, .slice a P.length cap], .int .i64 now] w fun e w' => (∃ Ke kd M c rs K2 kd2 M2 c2 rs2, e = .returned (.tuple #[.agg #[.int .i64 n, .slice (some ⟨Ke, 0, none⟩) key.length kd, .int .i64 b, .int .i64 now, .slice (some ⟨M, 0, none⟩) rs.length c], .agg #[.int .i64 n, .slice (some ⟨K2, 0, none⟩) key.length kd2, .int .i64 now, .slice (some ⟨M2, 0, none⟩) rs2.length c2]]) ∧ GB w.heap.size w' Ke key M 0 rs ∧ AB w.heap.size w' M c rs ∧ pals rs = leftTo P now P.length ∧ GB w.heap.size w' K2 key M2 0 rs2 ∧ AB w.heap.size w' M2 c2 rs2 ∧ pals rs2 = P) ∧ Below w.heap.size w w' := by
  have HK : Hid (Reads w (some ⟨gk, ok, none⟩) key) := hk
  have HR : Hid (RdN w a P ∧ LenM P) := ⟨hr, hs⟩
  clear hk hr hs
  obtain ⟨i0, hi, hz0, hz1, hz2⟩ := info_parts infoA
  generalize hW0 : ((w.alloc (.cells #[.int .i64 n, .slice (some ⟨gk, ok, none⟩) key.length kc, .int .i64 b, .int .i64 t, .slice a P.length cap] 67)).alloc (.cells #[.int .i64 0, .slice none 0 0, .int .i64 0, .int .i64 0, .slice none 0 0] 67)).alloc (.cells #[.int .i64 0, .slice none 0 0, .int .i64 0, .slice none 0 0] 55) = W0
  have HB0 : Hid (Below w.heap.size w W0) := by rw [← hW0]; exact Alm.below3 w _ _ _
  have BP0 : Hid (Blk W0 w.heap.size #[.int .i64 n, .slice (some ⟨gk, ok, none⟩) key.length kc, .int .i64 b, .int .i64 t, .slice a P.length cap] 67) := by rw [← hW0]; exact ((Blk.new _ _ _).alloc _).alloc _
  have BR0 : Hid (Blk W0 (w.heap.size + 1) #[.int .i64 0, .slice none 0 0, .int .i64 0, .int .i64 0, .slice none 0 0] 67) := by rw [← hW0]; exact (Blk.new_at (by simp)).alloc _
  have BS0 : Hid (Blk W0 (w.heap.size + 1 + 1) #[.int .i64 0, .slice none 0 0, .int .i64 0, .slice none 0 0] 55) := by rw [← hW0]; exact Blk.new_at (by simp)
  have HZ : Hid (W0.heap.size = w.heap.size + 3) := by show _ = _; rw [← hW0]; simp
  go_enter Try.func63, Try.ntmps63
  go_upto_region 1 with fail
  clear hW0
  have p0 := BP0.out.cell 0
  have p1 := BP0.out.cell 1
  have p2 := BP0.out.cell 2
  have p3 := BP0.out.cell 3
  have p4 := BP0.out.cell 4
  simp at p0 p1 p2 p3 p4
  go_wp2_with fail
  refine (l11Copy_any n b t gk ok kc key a cap P _ (HK.out.below HB0.out) hkl (HR.out.1.below HB0.out) hl HR.out.2).mono ?_
  rintro e w1 ⟨⟨Ke, kd, M0, c0, rs0, rfl, hG, hA, hP⟩, hb⟩
  have BP1 : Hid (Blk w1 w.heap.size #[.int .i64 n, .slice (some ⟨gk, ok, none⟩) key.length kc, .int .i64 b, .int .i64 t, .slice a P.length cap] 67) := BP0.out.grow hb
  have BR1 : Hid (Blk w1 (w.heap.size + 1) #[.int .i64 0, .slice none 0 0, .int .i64 0, .int .i64 0, .slice none 0 0] 67) := BR0.out.grow hb
  have BS1 : Hid (Blk w1 (w.heap.size + 1 + 1) #[.int .i64 0, .slice none 0 0, .int .i64 0, .slice none 0 0] 55) := BS0.out.grow hb
  have HK1 : Hid (OwnL (w.heap.size + 3) w1 Ke key) := hG.key.down (by rw [HZ.out]; exact Nat.le_refl _)
  have HB1 : Hid (Below w.heap.size w w1) := grow_on HB0.out hb
  have HL1 : Hid (w.heap.size + 3 ≤ w1.heap.size) := by unfold Hid; have := hb.size; rw [HZ.out] at this; exact this
  clear hG hA hP hb p0 p1 p2 p3 p4
  go_upto_region 4 with fail
  
  have HM0 : Hid (MidF w #[.int .i64 n, .slice (some ⟨gk, ok, none⟩) key.length kc, .int .i64 b, .int .i64 t, .slice a P.length cap] w1.heap.size n b now Ke kd key ((w1.alloc (.cells #[.int .i64 n, .slice (some ⟨Ke, 0, none⟩) key.length kd, .int .i64 b, .int .i64 now, .slice (some ⟨w1.heap.size + 1, 0, none⟩) 0 0] 67)).alloc (.cells #[] 48)) (w1.heap.size + 1) 0 []) := by
    have hb := Go.Joins.below_alloc2 w1 (.cells #[.int .i64 n, .slice (some ⟨Ke, 0, none⟩) key.length kd, .int .i64 b, .int .i64 now, .slice (some ⟨w1.heap.size + 1, 0, none⟩) 0 0] 67) (.cells #[] 48)
    refine ⟨BP1.out.grow hb, BR1.out.grow hb, BS1.out.grow hb, (Blk.new _ _ _).alloc _, ⟨by have := HL1.out; omega, by simp; omega⟩, HK1.out.grow hb, AB.nil (Blk.new_at (by simp)) (by have := HL1.out; omega), fun h => ?_, grow_on HB1.out hb⟩
    rcases h with e | ⟨x, hx, _⟩
    · have := HK1.out.lt; omega
    · simp at hx
  have HP0 : Hid (pals [] = leftTo P now 0) := by unfold Hid leftTo; simp [pals]
  have HKO : Hid (Ke < w1.heap.size) := HK1.out.lt
  clear BP0 BR0 BS0 HZ HB0 BP1 BR1 BS1 HK1 HB1
  generalize w1.heap.size = O at *
  generalize hW : (w1.alloc (.cells #[.int .i64 n, .slice (some ⟨Ke, 0, none⟩) key.length kd, .int .i64 b, .int .i64 now, .slice (some ⟨O + 1, 0, none⟩) 0 0] 67)).alloc (.cells #[] 48) = W at *
  clear hW
  go_wp2
  go_loopw [7] (fun i w' => ∃ (k M c : Nat) (rs : List ARow), i = .int .i64 k ∧ k ≤ P.length ∧ MidF w #[.int .i64 n, .slice (some ⟨gk, ok, none⟩) key.length kc, .int .i64 b, .int .i64 t, .slice a P.length cap] O n b now Ke kd key w' M c rs ∧ pals rs = leftTo P now k) (fun i _ => P.length - (intOf i).toNat)
  case atStart => exact ⟨0, O + 1, 0, [], rfl, Nat.zero_le _, HM0.out, HP0.out⟩
  case round =>
    clear HM0 HP0
    obtain ⟨k, M, c, rs, rfl, hk, hm, hp⟩ := hrel
    have HM : Hid (MidF w #[.int .i64 n, .slice (some ⟨gk, ok, none⟩) key.length kc, .int .i64 b, .int .i64 t, .slice a P.length cap] O n b now Ke kd key wr M c rs) := hm
    have HP : Hid (pals rs = leftTo P now k) := hp
    have hl1 : rs.length ≤ 1048576 := by have := left_le (now := now) hk; rw [← hp, pals_len] at this; omega
    have q4 : wr.cell? ⟨w.heap.size, 4, none⟩ = some (.slice a P.length cap) := hm.bp.cell 4
    clear hm hp
    by_cases hlt : k < P.length
    · have hlt' : (k : Int) < (P.length : Int) := by omega
      obtain ⟨bb, off, rfl, hbb, g, o, cp, hat⟩ := (HR.out.1.below HM.out.below).get hlt
      have h2 := hat.c0
      have h3 := hat.c1
      have h4 := hat.c2
      have h5 := hat.c3
      have HV : ∀ y, Hid (Calls Try.prog 84 #[.agg #[.slice (some ⟨g, o, none⟩) (nthP P k).l.length cp, .int .i64 (nthP P k).s, .int .i64 (nthP P k).e, .string (nthP P k).n], .int .i64 now] y fun r w' => r = .returned (.bool (overB (nthP P k).e now)) ∧ Below y.heap.size y w') := fun y => specOver_any _ _ _ _ _ _
      have HRd : Hid (Reads wr (some ⟨g, o, none⟩) (nthP P k).l) := hat.reads
      cases hov : overB (nthP P k).e now with
      | true =>
        rw [hov] at HV
        have HE : Hid (leftTo P now (k + 1) = leftTo P now k) := left_o hlt hov
        clear hov hat
        go_wp2_with fail
        refine (HV _).out.mono ?_
        rintro e w2 ⟨rfl, hb2⟩
        have HM2 : Hid (MidF w #[.int .i64 n, .slice (some ⟨gk, ok, none⟩) key.length kc, .int .i64 b, .int .i64 t, .slice (some ⟨bb, off, none⟩) P.length cap] O n b now Ke kd key w2 M c rs) := HM.out.grow hb2
        clear hb2 h2 h3 h4 h5 q4 HV
        go_wp2
        go_roundw
        case rel => exact ⟨k + 1, M, c, rs, by go_num, by omega, HM2.out, HP.out.trans HE.out.symm⟩
        case measure => simp [intOf]; omega
      | false =>
        rw [hov] at HV
        have HE : Hid (leftTo P now (k + 1) = leftTo P now k ++ [nthP P k]) := left_k hlt hov
        clear hov
        go_wp2_with fail
        refine (HV _).out.mono ?_
        rintro e w2 ⟨rfl, hb2⟩
        have HM2 : Hid (MidF w #[.int .i64 n, .slice (some ⟨gk, ok, none⟩) key.length kc, .int .i64 b, .int .i64 t, .slice (some ⟨bb, off, none⟩) P.length cap] O n b now Ke kd key w2 M c rs) := HM.out.grow hb2
        have hat2 := hat.below hb2 hbb
        have g2 := hat2.c0
        have g3 := hat2.c1
        have g4 := hat2.c2
        have g5 := hat2.c3
        have q4' : w2.cell? ⟨w.heap.size, 4, none⟩ = some (.slice (some ⟨bb, off, none⟩) P.length cap) := HM2.out.bp.cell 4
        have HC : Hid (Calls Try.prog 53 #[.agg #[.slice (some ⟨g, o, none⟩) (nthP P k).l.length cp, .int .i64 (nthP P k).s, .int .i64 (nthP P k).e, .string (nthP P k).n]] w2 fun r w' => (∃ Mx c, r = .returned (.agg #[.slice (some ⟨Mx, 0, none⟩) (nthP P k).l.length c, .int .i64 (nthP P k).s, .int .i64 (nthP P k).e, .string (nthP P k).n]) ∧ LabR.Own w2 w' Mx (nthP P k).l) ∧ Below w2.heap.size w2 w') := copyS_any _ _ _ _ _ _ _ w2 hat2.reads (HR.out.2 k hlt)
        clear hat hat2 hb2 h2 h3 h4 h5 q4 HV HM
        go_wp2_with fail
        refine HC.out.mono ?_
        rintro e w3 ⟨⟨Mx, cx, rfl, hO⟩, hb3⟩
        have HM3 : Hid (MidF w #[.int .i64 n, .slice (some ⟨gk, ok, none⟩) key.length kc, .int .i64 b, .int .i64 t, .slice (some ⟨bb, off, none⟩) P.length cap] O n b now Ke kd key w3 M c rs) := HM2.out.grow hb3
        have HO3 : Hid (OwnA (w.heap.size + 3) w3 (Mx, cx, nthP P k) ∧ w2.heap.size ≤ Mx) := ⟨(own_of_copy hO (HR.out.2 k hlt)).down (by have := HM2.out.ord; omega), hO.1⟩
        clear hO g2 g3 g4 g5 q4' HC
        go_upto_region 9 with fail
        generalize hW4 : w3.alloc (.cells #[.slice (some ⟨Mx, 0, none⟩) (nthP P k).l.length cx, .int .i64 (nthP P k).s, .int .i64 (nthP P k).e, .string (nthP P k).n] 48) = w4
        have hb4 : Below w3.heap.size w3 w4 := by rw [← hW4]; exact Go.Joins.below_alloc1 w3 _
        have XB : Hid (Blk w4 w3.heap.size #[.slice (some ⟨Mx, 0, none⟩) (nthP P k).l.length cx, .int .i64 (nthP P k).s, .int .i64 (nthP P k).e, .string (nthP P k).n] 48) := by rw [← hW4]; exact Blk.new _ _ _
        have HM4 : Hid (MidF w #[.int .i64 n, .slice (some ⟨gk, ok, none⟩) key.length kc, .int .i64 b, .int .i64 t, .slice (some ⟨bb, off, none⟩) P.length cap] O n b now Ke kd key w4 M c rs) := HM3.out.grow hb4
        have HO4 : Hid (OwnA (w.heap.size + 3) w4 (Mx, cx, nthP P k)) := HO3.out.1.grow hb4
        have HNE : Hid (∀ y ∈ rs, y.1 ≠ Mx) := fun y hy => by have := (HM2.out.ab.rows y hy).lt; have := HO3.out.2; show y.1 ≠ Mx; omega
        have HKX : Hid (Ke ≠ Mx ∧ Ke < w2.heap.size) := by have := HM2.out.key.lt; have := HO3.out.2; exact ⟨by omega, HM2.out.key.lt⟩
        clear hW4 hb4 HM3 HO3
        have d4 : w4.cell? ⟨O, 4, none⟩ = some (.slice (some ⟨M, 0, none⟩) rs.length c) := HM4.out.bo.cell 4
        have z0 : w4.cell? ⟨w3.heap.size, 0, none⟩ = some (.slice (some ⟨Mx, 0, none⟩) (nthP P k).l.length cx) := XB.out.cell 0
        have z1 : w4.cell? ⟨w3.heap.size, 1, none⟩ = some (.int .i64 (nthP P k).s) := XB.out.cell 1
        have z2 : w4.cell? ⟨w3.heap.size, 2, none⟩ = some (.int .i64 (nthP P k).e) := XB.out.cell 2
        have z3 : w4.cell? ⟨w3.heap.size, 3, none⟩ = some (.string (nthP P k).n) := XB.out.cell 3
        obtain ⟨xs, hox, hxl, hxs⟩ := HM4.out.ab.own
        have HOX : Hid (∀ o1, (w4.alloc o1).ownsRow (w.heap.size + 3) 48 4 (.slice (some ⟨M, 0, none⟩) rs.length c) rs.length xs) := fun o1 => own_grow hox (Go.Joins.below_alloc1 w4 o1)
        have HXS : Hid (xs.length = rs.length * 4 ∧ ∀ i, i < rs.length → Four (fun k => xs[k]?) i (nthA rs i)) := ⟨hxl, hxs⟩
        clear hox hxl hxs
        go_wp2_with (at_builtin; refine wpList_append_own_at _ rfl _ _ 53 rfl (w.heap.size + 3) 48 i0 (.agg #[.slice none 0 0, .int .i64 0, .int .i64 0, .string ByteArray.empty]) 4 56 Try.underlying53 hi hz0 hz1 hz2 rfl (by decide) _ _ _ rfl (HOX.out _) ⟨w4.heap.size, 0, none⟩ 1 1 (rowV (Mx, cx, nthP P k)) rfl rfl ?c1 (row_one _) ?c3 ?c4 ?c5 ?_)
        case c1 => exact blk_news (Blk.new _ _ _)
        case c3 => unfold maxLen; omega
        case c4 => omega
        case c5 => have := HM4.out.ord; simp; omega
        intro v' w5 hown hg hnil hat
        have hU := Go.Joins.below_alloc1 w4 (.cells #[.slice (some ⟨Mx, 0, none⟩) (nthP P k).l.length cx, .int .i64 (nthP P k).s, .int .i64 (nthP P k).e, .string (nthP P k).n] 48)
        obtain ⟨cu, hcu, _⟩ := (HM4.out.ab.grow hU).outer
        have hat2 : v'.ownBlock = some M ∨ v'.ownBlock = some (w4.heap.size + 1) := by
          rcases hat with h | h
          · exact .inl h
          · exact .inr (by first | rw [h] | (rw [h]; simp))
        obtain ⟨M5, c5, rfl, hAB5⟩ := (HM4.out.ab.grow hU).app (HO4.out.grow hU) HNE.out HXS.out.1 HXS.out.2 hown hg
        have HM5 : Hid (M5 = M ∨ M5 = w4.heap.size + 1) := hat2.imp Option.some.inj Option.some.inj
        have HAB5 : Hid (AB (w.heap.size + 3) w5 M5 c5 (rs ++ [(Mx, cx, nthP P k)])) := hAB5
        have B0 : Hid (Blk w5 w.heap.size #[.int .i64 n, .slice (some ⟨gk, ok, none⟩) key.length kc, .int .i64 b, .int .i64 t, .slice (some ⟨bb, off, none⟩) P.length cap] 67) := blk_far (HM4.out.bp.grow hU) hg (fun e => ne_blk (HM4.out.bp.grow hU) hcu (by decide) (Option.some.inj e))
        have B1 : Hid (Blk w5 (w.heap.size + 1) #[.int .i64 0, .slice none 0 0, .int .i64 0, .int .i64 0, .slice none 0 0] 67) := blk_far (HM4.out.br.grow hU) hg (fun e => ne_blk (HM4.out.br.grow hU) hcu (by decide) (Option.some.inj e))
        have B2 : Hid (Blk w5 (w.heap.size + 1 + 1) #[.int .i64 0, .slice none 0 0, .int .i64 0, .slice none 0 0] 55) := blk_far (HM4.out.bs.grow hU) hg (fun e => ne_blk (HM4.out.bs.grow hU) hcu (by decide) (Option.some.inj e))
        have B3 : Hid (Blk w5 O #[.int .i64 n, .slice (some ⟨Ke, 0, none⟩) key.length kd, .int .i64 b, .int .i64 now, .slice (some ⟨M, 0, none⟩) rs.length c] 67) := blk_far (HM4.out.bo.grow hU) hg (fun e => ne_blk (HM4.out.bo.grow hU) hcu (by decide) (Option.some.inj e))
        have HK5 : Hid (OwnL (w.heap.size + 3) w5 Ke key) := by
          obtain ⟨h0, ds, h1, h2⟩ := HM4.out.key.grow hU
          exact ⟨h0, ds, blk_far h1 hg (fun e => blkA_ne hcu h1 (Option.some.inj e).symm), h2⟩
        have HB5 : Hid (Below w.heap.size w w5) := (grow_on HM4.out.below hU).grown hg (by have := HM4.out.below.size; simp; omega) (fun k e => by have h : M = k := Option.some.inj e; have := HM4.out.ab.at'; omega)
        have HO5 : Hid (w.heap.size + 2 < O ∧ O < w5.heap.size) := ⟨HM4.out.ord.1, by have h1 := hg.size; have h2 := HM4.out.ord.2; simp at h1; omega⟩
        have HN5 : Hid (¬ blks M5 (rs ++ [(Mx, cx, nthP P k)]) Ke) := fun h => by
          have h4 := HM4.out.key.lt
          rcases h with e | ⟨x, hx, e⟩
          · rcases HM5.out with h5 | h5
            · exact HM4.out.ne (.inl (e.trans h5))
            · omega
          · rcases List.mem_append.1 hx with hx | hx
            · exact HM4.out.ne (.inr ⟨x, hx, e⟩)
            · rw [List.mem_singleton.1 hx] at e; exact HKX.out.1 e.symm
        have HL5 : Hid ((rs ++ [(Mx, cx, nthP P k)]).length = rs.length + 1) := by show _ = _; simp
        clear hown hg hnil hat hat2 hAB5 hcu hU z0 z1 z2 z3 d4
        have d4 : w5.cell? ⟨O, 4, none⟩ = some (.slice (some ⟨M, 0, none⟩) rs.length c) := B3.out.cell 4
        have fd4 := B3.out.frozen 4
        have HMid : Hid (MidF w #[.int .i64 n, .slice (some ⟨gk, ok, none⟩) key.length kc, .int .i64 b, .int .i64 t, .slice (some ⟨bb, off, none⟩) P.length cap] O n b now Ke kd key (w5.setCell ⟨O, 4, none⟩ (.slice (some ⟨M5, 0, none⟩) (rs.length + 1) c5)) M5 c5 (rs ++ [(Mx, cx, nthP P k)])) := by
          have hm := Moved.set B3.out (by decide) (by decide) 4 (.slice (some ⟨M5, 0, none⟩) (rs.length + 1) c5)
          have ho := HO5.out
          refine ⟨B0.out.set_other (by show O ≠ w.heap.size; omega) _, B1.out.set_other (by show O ≠ (w.heap.size + 1); omega) _, B2.out.set_other (by show O ≠ (w.heap.size + 1 + 1); omega) _, ?_, ⟨ho.1, by simpa using ho.2⟩, OwnL.moved HK5.out hm, Chs.ab_moved HAB5.out hm, HN5.out, set_low HB5.out (by omega) _ _⟩
          have := B3.out.set 4 (.slice (some ⟨M5, 0, none⟩) (rs.length + 1) c5)
          rw [HL5.out]
          exact this
        go_wp2
        go_roundw
        case rel => exact ⟨k + 1, M5, c5, _, by go_num, by omega, HMid.out, by rw [pals_app, HP.out, HE.out]⟩
        case measure => simp [intOf]; omega
    · have hge : ¬ (k : Int) < (P.length : Int) := by omega
      have HF : Hid (pals rs = leftTo P now P.length) := by
        have e : k = P.length := by omega
        have := HP.out
        rwa [e] at this
      clear HP
      go_upto_region 10 with fail
      have HZ1 : Hid (w.heap.size + 3 ≤ wr.heap.size) := by have := HM.out.ord; show _ ≤ _; omega
      clear q4 hge
      have HS : Hid (∀ w', Blk w' w.heap.size #[.int .i64 n, .slice (some ⟨gk, ok, none⟩) key.length kc, .int .i64 b, .int .i64 t, .slice a P.length cap] 67 → Blk w' O #[.int .i64 n, .slice (some ⟨Ke, 0, none⟩) key.length kd, .int .i64 b, .int .i64 now, .slice (some ⟨M, 0, none⟩) rs.length c] 67 → w'.cell? ⟨w.heap.size, 0, none⟩ = some (.int .i64 n) ∧ w'.cell? ⟨w.heap.size, 1, none⟩ = some (.slice (some ⟨gk, ok, none⟩) key.length kc) ∧ w'.cell? ⟨w.heap.size, 2, none⟩ = some (.int .i64 b) ∧ w'.cell? ⟨w.heap.size, 3, none⟩ = some (.int .i64 t) ∧ w'.cell? ⟨w.heap.size, 4, none⟩ = some (.slice a P.length cap) ∧ w'.cell? ⟨O, 0, none⟩ = some (.int .i64 n) ∧ w'.cell? ⟨O, 1, none⟩ = some (.slice (some ⟨Ke, 0, none⟩) key.length kd) ∧ w'.cell? ⟨O, 2, none⟩ = some (.int .i64 b) ∧ w'.cell? ⟨O, 3, none⟩ = some (.int .i64 now) ∧ w'.cell? ⟨O, 4, none⟩ = some (.slice (some ⟨M, 0, none⟩) rs.length c)) := fun w' h k => ⟨h.cell 0, h.cell 1, h.cell 2, h.cell 3, h.cell 4, k.cell 0, k.cell 1, k.cell 2, k.cell 3, k.cell 4⟩
      refine wp_region_held_drew (S := fun w' => w'.cell? ⟨w.heap.size, 0, none⟩ = some (.int .i64 n) ∧ w'.cell? ⟨w.heap.size, 1, none⟩ = some (.slice (some ⟨gk, ok, none⟩) key.length kc) ∧ w'.cell? ⟨w.heap.size, 2, none⟩ = some (.int .i64 b) ∧ w'.cell? ⟨w.heap.size, 3, none⟩ = some (.int .i64 t) ∧ w'.cell? ⟨w.heap.size, 4, none⟩ = some (.slice a P.length cap) ∧ w'.cell? ⟨O, 0, none⟩ = some (.int .i64 n) ∧ w'.cell? ⟨O, 1, none⟩ = some (.slice (some ⟨Ke, 0, none⟩) key.length kd) ∧ w'.cell? ⟨O, 2, none⟩ = some (.int .i64 b) ∧ w'.cell? ⟨O, 3, none⟩ = some (.int .i64 now) ∧ w'.cell? ⟨O, 4, none⟩ = some (.slice (some ⟨M, 0, none⟩) rs.length c)) (by kernel_rfl) (HS.out _ HM.out.bp.drew HM.out.bo.drew) (fun hHeld => ?_)
      refine wpAnyH_take (i := 0) (oi := { dst := some 42, op := Op.load 67 (Operand.tmp 6), type := 67, pos := "l11_group.go:61", after := #[], guard := none }) (v := ?vf0) rfl (by kernel_rfl) (by kernel_rfl) (by kernel_rfl) (fun _ _ _ h => h) (Or.inl ⟨by rfl, ?hyf0⟩) hHeld ?_
      case hyf0 => (intro w hSw; (try dsimp only at hSw); go_simp <;> with_reducible rfl)
      try simp only [Act.put, List.setIfInBounds_toArray, List.set_cons_zero, List.set_cons_succ]
      refine wpAnyH_take (i := 1) (oi := { dst := some 43, op := Op.fieldAddr 67 (Operand.tmp 2) 0, type := 0, pos := "l11_group.go:61", after := #[], guard := none }) (v := ?vf1) rfl (by kernel_rfl) (by kernel_rfl) (by kernel_rfl) (fun _ _ _ h => h) (Or.inl ⟨by rfl, ?hyf1⟩) hHeld ?_
      case hyf1 => (intro w hSw; (try dsimp only at hSw); go_simp <;> with_reducible rfl)
      try simp only [Act.put, List.setIfInBounds_toArray, List.set_cons_zero, List.set_cons_succ]
      refine wpAnyH_take (i := 2) (oi := { dst := some 44, op := Op.load 3 (Operand.tmp 43), type := 3, pos := "l11_group.go:61", after := #[{ on := 1, ground := Ground.data }], guard := none }) (v := ?vf2) rfl (by kernel_rfl) (by kernel_rfl) (by kernel_rfl) (fun _ _ _ h => h) (Or.inl ⟨by rfl, ?hyf2⟩) hHeld ?_
      case hyf2 => (intro w hSw; (try dsimp only at hSw); go_simp <;> with_reducible rfl)
      try simp only [Act.put, List.setIfInBounds_toArray, List.set_cons_zero, List.set_cons_succ]
      refine wpAnyH_take (i := 3) (oi := { dst := some 45, op := Op.fieldAddr 67 (Operand.tmp 2) 1, type := 0, pos := "l11_group.go:61", after := #[], guard := none }) (v := ?vf3) rfl (by kernel_rfl) (by kernel_rfl) (by kernel_rfl) (fun _ _ _ h => h) (Or.inl ⟨by rfl, ?hyf3⟩) hHeld ?_
      case hyf3 => (intro w hSw; (try dsimp only at hSw); go_simp <;> with_reducible rfl)
      try simp only [Act.put, List.setIfInBounds_toArray, List.set_cons_zero, List.set_cons_succ]
      refine wpAnyH_take (i := 4) (oi := { dst := some 46, op := Op.load 36 (Operand.tmp 45), type := 36, pos := "l11_group.go:61", after := #[{ on := 3, ground := Ground.data }], guard := none }) (v := ?vf4) rfl (by kernel_rfl) (by kernel_rfl) (by kernel_rfl) (fun _ _ _ h => h) (Or.inl ⟨by rfl, ?hyf4⟩) hHeld ?_
      case hyf4 => (intro w hSw; (try dsimp only at hSw); go_simp <;> with_reducible rfl)
      try simp only [Act.put, List.setIfInBounds_toArray, List.set_cons_zero, List.set_cons_succ]
      refine wpAnyH_take (i := 5) (oi := { dst := some 47, op := Op.move (Operand.tmp 1), type := 3, pos := "l11_group.go:61", after := #[], guard := none }) (v := ?vf5) rfl (by kernel_rfl) (by kernel_rfl) (by kernel_rfl) (fun _ _ _ h => h) (Or.inl ⟨by rfl, ?hyf5⟩) hHeld ?_
      case hyf5 => (intro w hSw; (try dsimp only at hSw); go_simp <;> with_reducible rfl)
      try simp only [Act.put, List.setIfInBounds_toArray, List.set_cons_zero, List.set_cons_succ]
      refine wpAnyH_take (i := 6) (oi := { dst := some 48, op := Op.fieldAddr 67 (Operand.tmp 2) 4, type := 0, pos := "l11_group.go:61", after := #[], guard := none }) (v := ?vf6) rfl (by kernel_rfl) (by kernel_rfl) (by kernel_rfl) (fun _ _ _ h => h) (Or.inl ⟨by rfl, ?hyf6⟩) hHeld ?_
      case hyf6 => (intro w hSw; (try dsimp only at hSw); go_simp <;> with_reducible rfl)
      try simp only [Act.put, List.setIfInBounds_toArray, List.set_cons_zero, List.set_cons_succ]
      refine wpAnyH_take (i := 7) (oi := { dst := some 49, op := Op.load 53 (Operand.tmp 48), type := 53, pos := "l11_group.go:61", after := #[{ on := 6, ground := Ground.data }], guard := none }) (v := ?vf7) rfl (by kernel_rfl) (by kernel_rfl) (by kernel_rfl) (fun _ _ _ h => h) (Or.inl ⟨by rfl, ?hyf7⟩) hHeld ?_
      case hyf7 => (intro w hSw; (try dsimp only at hSw); go_simp <;> with_reducible rfl)
      try simp only [Act.put, List.setIfInBounds_toArray, List.set_cons_zero, List.set_cons_succ]
      refine wpAnyH_take (i := 8) (oi := { dst := some 50, op := Op.build 55 #[(0, Operand.tmp 44), (1, Operand.tmp 46), (2, Operand.tmp 47), (3, Operand.tmp 49)], type := 55, pos := "l11_group.go:61", after := #[{ on := 2, ground := Ground.data }, { on := 4, ground := Ground.data }, { on := 5, ground := Ground.data }, { on := 7, ground := Ground.data }], guard := none }) (v := ?vf8) rfl (by kernel_rfl) (by kernel_rfl) (by kernel_rfl) (fun _ _ _ h => h) (Or.inl ⟨by rfl, ?hyf8⟩) hHeld ?_
      case hyf8 => (intro w hSw; (try dsimp only at hSw); go_simp <;> with_reducible rfl)
      try simp only [Act.put, List.setIfInBounds_toArray, List.set_cons_zero, List.set_cons_succ]
      refine wpAnyH_ready (rs := [9]) (by kernel_rfl) (by simp) ?_
      refine AllReadyH.cons (o := { dst := some 51, op := Op.call { callee := Callee.value (Operand.func 85), args := #[Operand.tmp 50], argTypes := #[55] }, type := 55, pos := "l11_group.go:61", after := #[{ on := 8, ground := Ground.data }], guard := none }) rfl (fun K hK => ?_) AllReadyH.nil
      go_simp
      refine (l11Batch_any n now gk ok kc key a cap P _ (HK.out.below (grow_on HM.out.below (Below.refl _ _).drew)) hkl (HR.out.1.below (grow_on HM.out.below (Below.refl _ _).drew)) hl HR.out.2).mono ?_
      rintro r wyf9 ⟨⟨K2, kd2, M2, c2, rs2, rfl, hG2, hA2, hP2⟩, hb2⟩
      have hb3 : Below wr.heap.size wr wyf9 := grow_on (Below.refl _ _).drew hb2
      have H9 : Hid (MidF w #[.int .i64 n, .slice (some ⟨gk, ok, none⟩) key.length kc, .int .i64 b, .int .i64 t, .slice a P.length cap] O n b now Ke kd key wyf9 M c rs) := HM.out.grow hb3
      have HG9 : Hid (GB (w.heap.size + 3) wyf9 K2 key M2 0 rs2 ∧ AB (w.heap.size + 3) wyf9 M2 c2 rs2 ∧ pals rs2 = P) := ⟨hG2.down HZ1.out, hA2.down HZ1.out, hP2⟩
      clear hG2 hA2 hP2 hb2 hb3
      clear hHeld
      refine hK.out _ _ (HS.out _ H9.out.bp H9.out.bo) (fun hHeld => ?_)
      clear hK K
      try simp only [Act.put, List.setIfInBounds_toArray, List.set_cons_zero, List.set_cons_succ]
      refine wpAnyH_ready (rs := [10]) (by kernel_rfl) (by simp) ?_
      refine AllReadyH.cons (o := { dst := none, op := Op.store 67 (Operand.tmp 4) (Operand.tmp 42), type := 0, pos := "l11_group.go:61", after := #[{ on := 0, ground := Ground.data }, { on := 9, ground := Ground.chain }, { on := 0, ground := Ground.phase }, { on := 1, ground := Ground.textOnly Departure.lateStores }, { on := 2, ground := Ground.textOnly Departure.lateStores }, { on := 3, ground := Ground.textOnly Departure.lateStores }, { on := 4, ground := Ground.textOnly Departure.lateStores }, { on := 5, ground := Ground.textOnly Departure.lateStores }, { on := 6, ground := Ground.textOnly Departure.lateStores }, { on := 7, ground := Ground.textOnly Departure.lateStores }, { on := 8, ground := Ground.textOnly Departure.lateStores }, { on := 9, ground := Ground.textOnly Departure.lateStoresUnsure }], guard := none }) rfl (fun K hK => ?_) AllReadyH.nil
      have r0 := H9.out.br.cell 0
      have fr0 := H9.out.br.frozen 0
      have r1 := H9.out.br.cell 1
      have fr1 := H9.out.br.frozen 1
      have r2 := H9.out.br.cell 2
      have fr2 := H9.out.br.frozen 2
      have r3 := H9.out.br.cell 3
      have fr3 := H9.out.br.frozen 3
      have r4 := H9.out.br.cell 4
      have fr4 := H9.out.br.frozen 4
      simp at r0 r1 r2 r3 r4
      go_simp
      clear hHeld
      refine hK.out _ _ (HS.out _ (((((H9.out.bp.set_other (p := ⟨(w.heap.size + 1), 0, none⟩) (by show (w.heap.size + 1) ≠ _; have := H9.out.ord; omega) (.int .i64 n)).set_other (p := ⟨(w.heap.size + 1), 1, none⟩) (by show (w.heap.size + 1) ≠ _; have := H9.out.ord; omega) (.slice (some ⟨Ke, 0, none⟩) key.length kd)).set_other (p := ⟨(w.heap.size + 1), 2, none⟩) (by show (w.heap.size + 1) ≠ _; have := H9.out.ord; omega) (.int .i64 b)).set_other (p := ⟨(w.heap.size + 1), 3, none⟩) (by show (w.heap.size + 1) ≠ _; have := H9.out.ord; omega) (.int .i64 now)).set_other (p := ⟨(w.heap.size + 1), 4, none⟩) (by show (w.heap.size + 1) ≠ _; have := H9.out.ord; omega) (.slice (some ⟨M, 0, none⟩) rs.length c)) (((((H9.out.bo.set_other (p := ⟨(w.heap.size + 1), 0, none⟩) (by show (w.heap.size + 1) ≠ _; have := H9.out.ord; omega) (.int .i64 n)).set_other (p := ⟨(w.heap.size + 1), 1, none⟩) (by show (w.heap.size + 1) ≠ _; have := H9.out.ord; omega) (.slice (some ⟨Ke, 0, none⟩) key.length kd)).set_other (p := ⟨(w.heap.size + 1), 2, none⟩) (by show (w.heap.size + 1) ≠ _; have := H9.out.ord; omega) (.int .i64 b)).set_other (p := ⟨(w.heap.size + 1), 3, none⟩) (by show (w.heap.size + 1) ≠ _; have := H9.out.ord; omega) (.int .i64 now)).set_other (p := ⟨(w.heap.size + 1), 4, none⟩) (by show (w.heap.size + 1) ≠ _; have := H9.out.ord; omega) (.slice (some ⟨M, 0, none⟩) rs.length c))) (fun hHeld => ?_)
      clear hK K
      try simp only [Act.put, List.setIfInBounds_toArray, List.set_cons_zero, List.set_cons_succ]
      clear r0 fr0 r1 fr1 r2 fr2 r3 fr3 r4 fr4
      have HS1 : Hid (Blk (((((wyf9.setCell ⟨(w.heap.size + 1), 0, none⟩ (.int .i64 n)).setCell ⟨(w.heap.size + 1), 1, none⟩ (.slice (some ⟨Ke, 0, none⟩) key.length kd)).setCell ⟨(w.heap.size + 1), 2, none⟩ (.int .i64 b)).setCell ⟨(w.heap.size + 1), 3, none⟩ (.int .i64 now)).setCell ⟨(w.heap.size + 1), 4, none⟩ (.slice (some ⟨M, 0, none⟩) rs.length c)) (w.heap.size + 1 + 1) #[.int .i64 0, .slice none 0 0, .int .i64 0, .slice none 0 0] 55) := (((((H9.out.bs.set_other (p := ⟨(w.heap.size + 1), 0, none⟩) (by show (w.heap.size + 1) ≠ _; have := H9.out.ord; omega) (.int .i64 n)).set_other (p := ⟨(w.heap.size + 1), 1, none⟩) (by show (w.heap.size + 1) ≠ _; have := H9.out.ord; omega) (.slice (some ⟨Ke, 0, none⟩) key.length kd)).set_other (p := ⟨(w.heap.size + 1), 2, none⟩) (by show (w.heap.size + 1) ≠ _; have := H9.out.ord; omega) (.int .i64 b)).set_other (p := ⟨(w.heap.size + 1), 3, none⟩) (by show (w.heap.size + 1) ≠ _; have := H9.out.ord; omega) (.int .i64 now)).set_other (p := ⟨(w.heap.size + 1), 4, none⟩) (by show (w.heap.size + 1) ≠ _; have := H9.out.ord; omega) (.slice (some ⟨M, 0, none⟩) rs.length c))
      refine wpAnyH_ready (rs := [11]) (by kernel_rfl) (by simp) ?_
      refine AllReadyH.cons (o := { dst := none, op := Op.store 55 (Operand.tmp 5) (Operand.tmp 51), type := 0, pos := "l11_group.go:61", after := #[{ on := 9, ground := Ground.data }, { on := 10, ground := Ground.chain }, { on := 0, ground := Ground.phase }, { on := 1, ground := Ground.phase }, { on := 2, ground := Ground.phase }, { on := 3, ground := Ground.phase }, { on := 4, ground := Ground.phase }, { on := 5, ground := Ground.phase }, { on := 6, ground := Ground.phase }, { on := 7, ground := Ground.phase }, { on := 8, ground := Ground.phase }, { on := 9, ground := Ground.phase }, { on := 10, ground := Ground.phase }], guard := none }) rfl (fun K hK => ?_) AllReadyH.nil
      have r0 := HS1.out.cell 0
      have fr0 := HS1.out.frozen 0
      have r1 := HS1.out.cell 1
      have fr1 := HS1.out.frozen 1
      have r2 := HS1.out.cell 2
      have fr2 := HS1.out.frozen 2
      have r3 := HS1.out.cell 3
      have fr3 := HS1.out.frozen 3
      simp at r0 r1 r2 r3
      go_simp
      clear hHeld
      refine hK.out _ _ (HS.out _ (((((((((H9.out.bp.set_other (p := ⟨(w.heap.size + 1), 0, none⟩) (by show (w.heap.size + 1) ≠ _; have := H9.out.ord; omega) (.int .i64 n)).set_other (p := ⟨(w.heap.size + 1), 1, none⟩) (by show (w.heap.size + 1) ≠ _; have := H9.out.ord; omega) (.slice (some ⟨Ke, 0, none⟩) key.length kd)).set_other (p := ⟨(w.heap.size + 1), 2, none⟩) (by show (w.heap.size + 1) ≠ _; have := H9.out.ord; omega) (.int .i64 b)).set_other (p := ⟨(w.heap.size + 1), 3, none⟩) (by show (w.heap.size + 1) ≠ _; have := H9.out.ord; omega) (.int .i64 now)).set_other (p := ⟨(w.heap.size + 1), 4, none⟩) (by show (w.heap.size + 1) ≠ _; have := H9.out.ord; omega) (.slice (some ⟨M, 0, none⟩) rs.length c)).set_other (p := ⟨(w.heap.size + 1 + 1), 0, none⟩) (by show (w.heap.size + 1 + 1) ≠ _; have := H9.out.ord; omega) (.int .i64 n)).set_other (p := ⟨(w.heap.size + 1 + 1), 1, none⟩) (by show (w.heap.size + 1 + 1) ≠ _; have := H9.out.ord; omega) (.slice (some ⟨K2, 0, none⟩) key.length kd2)).set_other (p := ⟨(w.heap.size + 1 + 1), 2, none⟩) (by show (w.heap.size + 1 + 1) ≠ _; have := H9.out.ord; omega) (.int .i64 now)).set_other (p := ⟨(w.heap.size + 1 + 1), 3, none⟩) (by show (w.heap.size + 1 + 1) ≠ _; have := H9.out.ord; omega) (.slice (some ⟨M2, 0, none⟩) rs2.length c2)) (((((((((H9.out.bo.set_other (p := ⟨(w.heap.size + 1), 0, none⟩) (by show (w.heap.size + 1) ≠ _; have := H9.out.ord; omega) (.int .i64 n)).set_other (p := ⟨(w.heap.size + 1), 1, none⟩) (by show (w.heap.size + 1) ≠ _; have := H9.out.ord; omega) (.slice (some ⟨Ke, 0, none⟩) key.length kd)).set_other (p := ⟨(w.heap.size + 1), 2, none⟩) (by show (w.heap.size + 1) ≠ _; have := H9.out.ord; omega) (.int .i64 b)).set_other (p := ⟨(w.heap.size + 1), 3, none⟩) (by show (w.heap.size + 1) ≠ _; have := H9.out.ord; omega) (.int .i64 now)).set_other (p := ⟨(w.heap.size + 1), 4, none⟩) (by show (w.heap.size + 1) ≠ _; have := H9.out.ord; omega) (.slice (some ⟨M, 0, none⟩) rs.length c)).set_other (p := ⟨(w.heap.size + 1 + 1), 0, none⟩) (by show (w.heap.size + 1 + 1) ≠ _; have := H9.out.ord; omega) (.int .i64 n)).set_other (p := ⟨(w.heap.size + 1 + 1), 1, none⟩) (by show (w.heap.size + 1 + 1) ≠ _; have := H9.out.ord; omega) (.slice (some ⟨K2, 0, none⟩) key.length kd2)).set_other (p := ⟨(w.heap.size + 1 + 1), 2, none⟩) (by show (w.heap.size + 1 + 1) ≠ _; have := H9.out.ord; omega) (.int .i64 now)).set_other (p := ⟨(w.heap.size + 1 + 1), 3, none⟩) (by show (w.heap.size + 1 + 1) ≠ _; have := H9.out.ord; omega) (.slice (some ⟨M2, 0, none⟩) rs2.length c2))) (fun hHeld => ?_)
      clear hK K
      try simp only [Act.put, List.setIfInBounds_toArray, List.set_cons_zero, List.set_cons_succ]
      clear r0 fr0 r1 fr1 r2 fr2 r3 fr3
      refine wpAnyH_done (by kernel_rfl) ?_ _
      clear hHeld
      go_wp2_with fail
      have hR : Blk _ (w.heap.size + 1) #[.int .i64 n, .slice (some ⟨Ke, 0, none⟩) key.length kd, .int .i64 b, .int .i64 now, .slice (some ⟨M, 0, none⟩) rs.length c] 67 := (((((((((H9.out.br.set 0 (.int .i64 n)).set 1 (.slice (some ⟨Ke, 0, none⟩) key.length kd)).set 2 (.int .i64 b)).set 3 (.int .i64 now)).set 4 (.slice (some ⟨M, 0, none⟩) rs.length c)).set_other (p := ⟨(w.heap.size + 1 + 1), 0, none⟩) (by show (w.heap.size + 1 + 1) ≠ _; have := H9.out.ord; omega) (.int .i64 n)).set_other (p := ⟨(w.heap.size + 1 + 1), 1, none⟩) (by show (w.heap.size + 1 + 1) ≠ _; have := H9.out.ord; omega) (.slice (some ⟨K2, 0, none⟩) key.length kd2)).set_other (p := ⟨(w.heap.size + 1 + 1), 2, none⟩) (by show (w.heap.size + 1 + 1) ≠ _; have := H9.out.ord; omega) (.int .i64 now)).set_other (p := ⟨(w.heap.size + 1 + 1), 3, none⟩) (by show (w.heap.size + 1 + 1) ≠ _; have := H9.out.ord; omega) (.slice (some ⟨M2, 0, none⟩) rs2.length c2))
      have hS : Blk _ (w.heap.size + 1 + 1) #[.int .i64 n, .slice (some ⟨K2, 0, none⟩) key.length kd2, .int .i64 now, .slice (some ⟨M2, 0, none⟩) rs2.length c2] 55 := ((((HS1.out.set 0 (.int .i64 n)).set 1 (.slice (some ⟨K2, 0, none⟩) key.length kd2)).set 2 (.int .i64 now)).set 3 (.slice (some ⟨M2, 0, none⟩) rs2.length c2))
      have s0 := hR.cell 0
      have s1 := hR.cell 1
      have s2 := hR.cell 2
      have s3 := hR.cell 3
      have s4 := hR.cell 4
      have u0 := hS.cell 0
      have u1 := hS.cell 1
      have u2 := hS.cell 2
      have u3 := hS.cell 3
      refine bodyPost_ret (v := .tuple #[.agg #[.int .i64 n, .slice (some ⟨Ke, 0, none⟩) key.length kd, .int .i64 b, .int .i64 now, .slice (some ⟨M, 0, none⟩) rs.length c], .agg #[.int .i64 n, .slice (some ⟨K2, 0, none⟩) key.length kd2, .int .i64 now, .slice (some ⟨M2, 0, none⟩) rs2.length c2]]) (by simp [results, Try.results63, go_sem, s0, s1, s2, s3, s4, u0, u1, u2, u3]) rfl ?_
      have hab := (DrawC.ab_under (DrawC.ab_under (DrawC.ab_under (DrawC.ab_under (DrawC.ab_under (DrawC.ab_under (DrawC.ab_under (DrawC.ab_under (DrawC.ab_under H9.out.ab (A := (w.heap.size + 1)) (by omega) 0 (.int .i64 n)) (A := (w.heap.size + 1)) (by omega) 1 (.slice (some ⟨Ke, 0, none⟩) key.length kd)) (A := (w.heap.size + 1)) (by omega) 2 (.int .i64 b)) (A := (w.heap.size + 1)) (by omega) 3 (.int .i64 now)) (A := (w.heap.size + 1)) (by omega) 4 (.slice (some ⟨M, 0, none⟩) rs.length c)) (A := (w.heap.size + 1 + 1)) (by omega) 0 (.int .i64 n)) (A := (w.heap.size + 1 + 1)) (by omega) 1 (.slice (some ⟨K2, 0, none⟩) key.length kd2)) (A := (w.heap.size + 1 + 1)) (by omega) 2 (.int .i64 now)) (A := (w.heap.size + 1 + 1)) (by omega) 3 (.slice (some ⟨M2, 0, none⟩) rs2.length c2))
      have hab2 := (DrawC.ab_under (DrawC.ab_under (DrawC.ab_under (DrawC.ab_under (DrawC.ab_under (DrawC.ab_under (DrawC.ab_under (DrawC.ab_under (DrawC.ab_under HG9.out.2.1 (A := (w.heap.size + 1)) (by omega) 0 (.int .i64 n)) (A := (w.heap.size + 1)) (by omega) 1 (.slice (some ⟨Ke, 0, none⟩) key.length kd)) (A := (w.heap.size + 1)) (by omega) 2 (.int .i64 b)) (A := (w.heap.size + 1)) (by omega) 3 (.int .i64 now)) (A := (w.heap.size + 1)) (by omega) 4 (.slice (some ⟨M, 0, none⟩) rs.length c)) (A := (w.heap.size + 1 + 1)) (by omega) 0 (.int .i64 n)) (A := (w.heap.size + 1 + 1)) (by omega) 1 (.slice (some ⟨K2, 0, none⟩) key.length kd2)) (A := (w.heap.size + 1 + 1)) (by omega) 2 (.int .i64 now)) (A := (w.heap.size + 1 + 1)) (by omega) 3 (.slice (some ⟨M2, 0, none⟩) rs2.length c2))
      exact ⟨⟨Ke, kd, M, c, rs, K2, kd2, M2, c2, rs2, rfl, ⟨((((((((((H9.out.key.set (R := (w.heap.size + 1)) (by have := H9.out.key.1; omega) 0 (.int .i64 n)).set (R := (w.heap.size + 1)) (by have := H9.out.key.1; omega) 1 (.slice (some ⟨Ke, 0, none⟩) key.length kd)).set (R := (w.heap.size + 1)) (by have := H9.out.key.1; omega) 2 (.int .i64 b)).set (R := (w.heap.size + 1)) (by have := H9.out.key.1; omega) 3 (.int .i64 now)).set (R := (w.heap.size + 1)) (by have := H9.out.key.1; omega) 4 (.slice (some ⟨M, 0, none⟩) rs.length c)).set (R := (w.heap.size + 1 + 1)) (by have := H9.out.key.1; omega) 0 (.int .i64 n)).set (R := (w.heap.size + 1 + 1)) (by have := H9.out.key.1; omega) 1 (.slice (some ⟨K2, 0, none⟩) key.length kd2)).set (R := (w.heap.size + 1 + 1)) (by have := H9.out.key.1; omega) 2 (.int .i64 now)).set (R := (w.heap.size + 1 + 1)) (by have := H9.out.key.1; omega) 3 (.slice (some ⟨M2, 0, none⟩) rs2.length c2))).down (by omega), AO.down (AB.ao hab) (by omega), H9.out.ne⟩, hab.down (by omega), HF.out, ⟨((((((((((HG9.out.1.key.set (R := (w.heap.size + 1)) (by have := HG9.out.1.key.1; omega) 0 (.int .i64 n)).set (R := (w.heap.size + 1)) (by have := HG9.out.1.key.1; omega) 1 (.slice (some ⟨Ke, 0, none⟩) key.length kd)).set (R := (w.heap.size + 1)) (by have := HG9.out.1.key.1; omega) 2 (.int .i64 b)).set (R := (w.heap.size + 1)) (by have := HG9.out.1.key.1; omega) 3 (.int .i64 now)).set (R := (w.heap.size + 1)) (by have := HG9.out.1.key.1; omega) 4 (.slice (some ⟨M, 0, none⟩) rs.length c)).set (R := (w.heap.size + 1 + 1)) (by have := HG9.out.1.key.1; omega) 0 (.int .i64 n)).set (R := (w.heap.size + 1 + 1)) (by have := HG9.out.1.key.1; omega) 1 (.slice (some ⟨K2, 0, none⟩) key.length kd2)).set (R := (w.heap.size + 1 + 1)) (by have := HG9.out.1.key.1; omega) 2 (.int .i64 now)).set (R := (w.heap.size + 1 + 1)) (by have := HG9.out.1.key.1; omega) 3 (.slice (some ⟨M2, 0, none⟩) rs2.length c2))).down (by omega), AO.down (AB.ao hab2) (by omega), HG9.out.1.ne⟩, hab2.down (by omega), HG9.out.2.2⟩, (set_low (set_low (set_low (set_low (set_low (set_low (set_low (set_low (set_low H9.out.below (M := (w.heap.size + 1)) (by omega) 0 (.int .i64 n)) (M := (w.heap.size + 1)) (by omega) 1 (.slice (some ⟨Ke, 0, none⟩) key.length kd)) (M := (w.heap.size + 1)) (by omega) 2 (.int .i64 b)) (M := (w.heap.size + 1)) (by omega) 3 (.int .i64 now)) (M := (w.heap.size + 1)) (by omega) 4 (.slice (some ⟨M, 0, none⟩) rs.length c)) (M := (w.heap.size + 1 + 1)) (by omega) 0 (.int .i64 n)) (M := (w.heap.size + 1 + 1)) (by omega) 1 (.slice (some ⟨K2, 0, none⟩) key.length kd2)) (M := (w.heap.size + 1 + 1)) (by omega) 2 (.int .i64 now)) (M := (w.heap.size + 1 + 1)) (by omega) 3 (.slice (some ⟨M2, 0, none⟩) rs2.length c2))⟩
end Go.Proofs.Ytgncimlojbnbfaa.GrpF
