/-
  PROVED: spec.l4All gives the same alarms in memory of its own; nothing that was there is changed.
  PROVED: spec.l11Copy and spec.l11Batch give the same in memory of their own; nothing that was there is changed.
-/
import Derived.Test.YtgncimlojbnbfaaGreatQLst
import Derived.Test.YtgncimlojbnbfaaGreatQGrp
set_option linter.unusedVariables false
namespace Go.Proofs.YtgncimlojbnbfaaGreat.ChnT
open Go.RowKit
open Labs LabS Alms AlmM Over Blk App Rws
open AlmS ChnI ChnC ChnP
open StrB (retB)
open Alm (at_par)
set_option maxHeartbeats 1600000 in
theorem l4All_any (a : Option Addr) (cap : Nat) (P : List PAl) (w : World) (hr : RdN w a P) (hl : P.length ≤ 1048576) (hs : LenM P) :
    Calls Tryz.prog 67 #[.slice a P.length cap] w fun e w' => (∃ M c rs, e = .returned (.slice (some ⟨M, 0, none⟩) rs.length c) ∧ AB w.heap.size w' M c rs ∧ pals rs = P) ∧ Below w.heap.size w w' := by
  have HR : Hid (RdN w a P ∧ LenM P) := ⟨hr, hs⟩
  clear hr hs
  obtain ⟨i0, hi, hz0, hz1, hz2⟩ := info_parts infoA
  go_enter Tryz.func67, Tryz.ntmps67
  go_wp2
  go_loopw [3, 4] (fun v i w' => ∃ (k M c : Nat) (rs : List ARow), i = .int .i64 k ∧ k ≤ P.length ∧ v = .slice (some ⟨M, 0, none⟩) rs.length c ∧ AB w.heap.size w' M c rs ∧ pals rs = P.take k ∧ Below w.heap.size w w') (fun _ i _ => P.length - (intOf i).toNat)
  case atStart => exact ⟨0, w.heap.size, 0, [], rfl, Nat.zero_le _, rfl, AB.nil (Blk.new _ _ _) (Nat.le_refl _), rfl, Go.Joins.below_alloc1 w _⟩
  case round =>
    obtain ⟨k, M, c, rs, rfl, hk, rfl, hab, hp, hb⟩ := hrel
    have HAB : Hid (AB w.heap.size wr M c rs) := hab
    have HP : Hid (pals rs = P.take k) := hp
    have HB : Hid (Below w.heap.size w wr) := hb
    have HRl : Hid (rs.length = k) := by show _ = _; rw [← pals_len, hp]; simp; omega
    have hrl : rs.length ≤ 1048576 := by have := HRl.out; omega
    clear hab hp hb
    by_cases hlt : k < P.length
    · have hlt' : (k : Int) < (P.length : Int) := by omega
      obtain ⟨b, off, rfl, hb, g, o, cp, hat⟩ := (HR.out.1.below HB.out).get hlt
      have h2 := hat.c0
      have h3 := hat.c1
      have h4 := hat.c2
      have h5 := hat.c3
      have HC : Hid (Calls Tryz.prog 37 #[.agg #[.slice (some ⟨g, o, none⟩) (nthP P k).l.length cp, .int .i64 (nthP P k).s, .int .i64 (nthP P k).e, .string (nthP P k).n]] wr fun r w' => (∃ Mx c, r = .returned (.agg #[.slice (some ⟨Mx, 0, none⟩) (nthP P k).l.length c, .int .i64 (nthP P k).s, .int .i64 (nthP P k).e, .string (nthP P k).n]) ∧ LabR.Own wr w' Mx (nthP P k).l) ∧ Below wr.heap.size wr w') := copyS_any _ _ _ _ _ _ _ wr hat.reads (HR.out.2 k hlt)
      clear hat
      go_wp2_with fail
      refine HC.out.mono ?_
      rintro e w1 ⟨⟨Mx, cx, rfl, hO⟩, hb1⟩
      have HAB1 : Hid (AB w.heap.size w1 M c rs) := HAB.out.grow hb1
      have HO : Hid (OwnA w.heap.size w1 (Mx, cx, nthP P k) ∧ wr.heap.size ≤ Mx) := ⟨(own_of_copy hO (HR.out.2 k hlt)).down HB.out.size, hO.1⟩
      have HB1 : Hid (Below w.heap.size w w1) := grow_on HB.out hb1
      have HU : Hid (∀ o1 o2, Below w1.heap.size w1 ((w1.alloc o1).alloc o2)) := fun o1 o2 => Go.Joins.below_alloc2 w1 o1 o2
      obtain ⟨xs, hox, hxl, hxs⟩ := HAB1.out.own
      have HOX : Hid (∀ o1 o2, ((w1.alloc o1).alloc o2).ownsRow w.heap.size 27 4 (.slice (some ⟨M, 0, none⟩) rs.length c) rs.length xs) := fun o1 o2 => own_grow hox (Go.Joins.below_alloc2 w1 o1 o2)
      have HXS : Hid (xs.length = rs.length * 4 ∧ ∀ i, i < rs.length → Four (fun k => xs[k]?) i (nthA rs i)) := ⟨hxl, hxs⟩
      clear hb1 hO h2 h3 h4 h5 HC hox hxl hxs
      go_wp2_with (at_builtin; refine wpList_append_own_at _ rfl _ _ 35 rfl w.heap.size 27 i0 (.agg #[.slice none 0 0, .int .i64 0, .int .i64 0, .string ByteArray.empty]) 4 56 Tryz.underlying35 hi hz0 hz1 hz2 rfl (by decide) _ _ _ rfl (HOX.out _ _) ⟨w1.heap.size + 1, 0, none⟩ 1 1 (rowV (Mx, cx, nthP P k)) rfl rfl ?c1 (row_one _) ?c3 ?c4 ?c5 ?_)
      case c1 => exact blk_news (Blk.new_at (by simp))
      case c3 => unfold maxLen; omega
      case c4 => omega
      case c5 => have := HB1.out.size; simp; omega
      intro v' w2 hown hg hnil hat
      obtain ⟨M3, c3, rfl, hAB3⟩ := (HAB1.out.grow (HU.out _ _)).app (HO.out.1.grow (HU.out _ _)) (fun y hy => by have := (HAB.out.rows y hy).lt; have := HO.out.2; show y.1 ≠ Mx; omega) HXS.out.1 HXS.out.2 hown hg
      have HAB3 : Hid (AB w.heap.size w2 M3 c3 (rs ++ [(Mx, cx, nthP P k)])) := hAB3
      have HB3 : Hid (Below w.heap.size w w2) := (grow_on HB1.out (HU.out _ _)).grown hg (by have := HB1.out.size; simp; omega) (fun k e => by have h : M = k := Option.some.inj e; have := HAB.out.at'; omega)
      have HP3 : Hid (pals (rs ++ [(Mx, cx, nthP P k)]) = P.take (k + 1)) := by show _ = _; rw [pals_app, HP.out, takeP_up hlt]
      have HL3 : Hid ((rs ++ [(Mx, cx, nthP P k)]).length = rs.length + 1) := by show _ = _; simp
      clear hown hg hnil hat hAB3
      go_wp2
      go_roundw
      case rel => exact ⟨k + 1, M3, c3, _, by go_num, by omega, by rw [HL3.out], HAB3.out, HP3.out, HB3.out⟩
      case measure => simp [intOf]; omega
    · have hge : ¬ (k : Int) < (P.length : Int) := by omega
      have HF : Hid (pals rs = P) := by show _ = _; rw [HP.out]; exact List.take_of_length_le (by omega)
      go_wp2
      go_ret
      exact ⟨⟨M, c, rs, rfl, HAB.out, HF.out⟩, HB.out⟩
end Go.Proofs.YtgncimlojbnbfaaGreat.ChnT
namespace Go.Proofs.YtgncimlojbnbfaaGreat.GrpC
open Go.RowKit
open Labs LabS LabR Alms AlmS AlmM Over Blk App Rws ChnI ChnC ChnK Grp
open StrB (retB)
open LabT (Held infoL)
set_option maxHeartbeats 1600000 in
theorem l11Copy_any (n b t : Int) (gk ok kc : Nat) (key : List Lab) (a : Option Addr) (cap : Nat) (P : List PAl) (w : World) (hk : Reads w (some ⟨gk, ok, none⟩) key) (hkl : key.length ≤ 1048576) (hr : RdN w a P) (hl : P.length ≤ 1048576) (hs : LenM P) :
    Calls Tryz.prog 64 #[.agg #[.int .i64 n, .slice (some ⟨gk, ok, none⟩) key.length kc, .int .i64 b, .int .i64 t, .slice a P.length cap]] w fun r w' => (∃ K kd M c rs, r = .returned (.agg #[.int .i64 n, .slice (some ⟨K, 0, none⟩) key.length kd, .int .i64 b, .int .i64 t, .slice (some ⟨M, 0, none⟩) rs.length c]) ∧ GB w.heap.size w' K key M 0 rs ∧ AB w.heap.size w' M c rs ∧ pals rs = P) ∧ Below w.heap.size w w' := by
  have HK : Hid (Reads w (some ⟨gk, ok, none⟩) key) := hk
  have HR : Hid (RdN w a P ∧ LenM P) := ⟨hr, hs⟩
  clear hk hr hs
  obtain ⟨i0, hi, hz0, hz1, hz2⟩ := info_parts infoL
  go_enter Tryz.func64, Tryz.ntmps64
  have HO : Hid ((((w.alloc (.cells #[.int .i64 n, .slice (some ⟨gk, ok, none⟩) key.length kc, .int .i64 b, .int .i64 t, .slice a P.length cap] 53)).alloc (.cells #[.int .i64 0, .slice none 0 0, .int .i64 0, .int .i64 0, .slice none 0 0] 53)).alloc (.cells #[] 99)).ownsRow (w.heap.size + 2) 99 2 (.slice (some ⟨w.heap.size + 2, 0, none⟩) 0 0) 0 []) := own_empty (Blk.new_at (by simp)) (Nat.le_refl _)
  go_wp2_with (at_builtin; refine wpList_append_own_at _ rfl _ _ 25 rfl (w.heap.size + 2) 99 i0 (.agg #[.string ByteArray.empty, .string ByteArray.empty]) 2 32 Tryz.underlying25 hi hz0 hz1 hz2 rfl (by decide) _ _ _ rfl HO.out ⟨gk, ok, none⟩ key.length kc (flat key) rfl (flat_len key) ?c1 (flat_one key) ?c3 ?c4 ?c5 ?_)
  case c1 => exact src_of (HK.out.below (Alm.below3 w _ _ _))
  case c3 => unfold maxLen; omega
  case c4 => omega
  case c5 => simp
  intro v' w4 hown hg hnil _
  have hlow : Below (w.heap.size + 2) ((w.alloc (.cells #[.int .i64 n, .slice (some ⟨gk, ok, none⟩) key.length kc, .int .i64 b, .int .i64 t, .slice a P.length cap] 53)).alloc (.cells #[.int .i64 0, .slice none 0 0, .int .i64 0, .int .i64 0, .slice none 0 0] 53)) w4 := ((Below.refl _ _).alloc (by simp) _).grown hg (by simp) (fun k hk => (HO.out.lt k hk).1)
  have hpl : w4.ownsRow (w.heap.size + 2) 99 2 v' key.length (flat key) := by simpa using hown
  obtain ⟨K, kd, hv⟩ : ∃ g' c', v' = .slice (some ⟨g', 0, none⟩) key.length c' := by
    rcases hpl.2 with ⟨e, _⟩ | ⟨g', c', cur, e, _⟩
    · exact absurd e hnil
    · exact ⟨g', c', e⟩
  subst hv
  have HW : Hid (OwnL (w.heap.size + 2) w4 K key) := own_row hpl
  have P4 : Hid (Blk w4 w.heap.size #[.int .i64 n, .slice (some ⟨gk, ok, none⟩) key.length kc, .int .i64 b, .int .i64 t, .slice a P.length cap] 53) := ((Blk.new _ _ _).alloc _).below hlow (by omega)
  have R4 : Hid (Blk w4 (w.heap.size + 1) #[.int .i64 0, .slice none 0 0, .int .i64 0, .int .i64 0, .slice none 0 0] 53) := (Blk.new_at (by simp)).below hlow (by omega)
  have HB : Hid (Below w.heap.size w w4) := (Go.Joins.below_alloc2 w _ _).trans (hlow.mono (by omega))
  have HL4 : Hid (w.heap.size + 2 ≤ w4.heap.size) := by unfold Hid; have := hlow.size; simpa using this
  have p1 := P4.out.cell 1
  have fp1 := P4.out.frozen 1
  have p4 := P4.out.cell 4
  simp at p1 p4
  clear hown hg hnil hlow hpl HO hi hz0 hz1 hz2
  go_wp2_with fail
  refine (ChnT.l4All_any a cap P _ (HR.out.1.below (set_low HB.out (M := w.heap.size) (Nat.le_refl _) _ _)) hl HR.out.2).mono ?_
  rintro r w5 ⟨⟨M, c, rs, rfl, hA, hP⟩, hb⟩
  have HA : Hid (AB (w.heap.size + 2) w5 M c rs ∧ pals rs = P ∧ ¬ blks M rs K) := ⟨hA.down (by simp; exact HL4.out), hP, fun h => by
    have h1 := ChnK.aoblks_low (ChnK.AB.ao hA) K h
    have h2 := HW.out.lt
    simp at h1
    omega⟩
  have P5 : Hid (Blk w5 w.heap.size #[.int .i64 n, .slice (some ⟨K, 0, none⟩) key.length kd, .int .i64 b, .int .i64 t, .slice a P.length cap] 53) := (P4.out.set 1 _).grow hb
  have R5 : Hid (Blk w5 (w.heap.size + 1) #[.int .i64 0, .slice none 0 0, .int .i64 0, .int .i64 0, .slice none 0 0] 53) := (R4.out.set_other (by show w.heap.size ≠ (w.heap.size + 1); omega) _).grow hb
  have HK5 : Hid (OwnL (w.heap.size + 2) w5 K key) := (HW.out.set (R := w.heap.size) (by have := HW.out.1; omega) _ _).grow hb
  have HB5 : Hid (Below w.heap.size w w5) := (set_low HB.out (M := w.heap.size) (Nat.le_refl _) _ _).trans (hb.mono (by simp; exact HB.out.size))
  clear hA hP hb p1 fp1 p4
  have p0 := P5.out.cell 0
  have r0 := R5.out.cell 0
  have fr0 := R5.out.frozen 0
  have p1 := P5.out.cell 1
  have r1 := R5.out.cell 1
  have fr1 := R5.out.frozen 1
  have p2 := P5.out.cell 2
  have r2 := R5.out.cell 2
  have fr2 := R5.out.frozen 2
  have p3 := P5.out.cell 3
  have r3 := R5.out.cell 3
  have fr3 := R5.out.frozen 3
  have p4 := P5.out.cell 4
  have r4 := R5.out.cell 4
  have fr4 := R5.out.frozen 4
  have fp := P5.out.frozen 4
  simp at p0 r0 p1 r1 p2 r2 p3 r3 p4 r4
  have hne : w.heap.size ≠ (w.heap.size + 1) := by omega
  go_wp2
  have hs : Blk _ (w.heap.size + 1) #[.int .i64 n, .slice (some ⟨K, 0, none⟩) key.length kd, .int .i64 b, .int .i64 t, .slice (some ⟨M, 0, none⟩) rs.length c] 53 := ((((((R5.out.set_other (p := ⟨w.heap.size, 4, none⟩) (by show w.heap.size ≠ (w.heap.size + 1); omega) (.slice (some ⟨M, 0, none⟩) rs.length c)).set 0 (.int .i64 n)).set 1 (.slice (some ⟨K, 0, none⟩) key.length kd)).set 2 (.int .i64 b)).set 3 (.int .i64 t)).set 4 (.slice (some ⟨M, 0, none⟩) rs.length c))
  have s0 := hs.cell 0
  have s1 := hs.cell 1
  have s2 := hs.cell 2
  have s3 := hs.cell 3
  have s4 := hs.cell 4
  refine bodyPost_ret (v := .agg #[.int .i64 n, .slice (some ⟨K, 0, none⟩) key.length kd, .int .i64 b, .int .i64 t, .slice (some ⟨M, 0, none⟩) rs.length c]) (by simp [results, Tryz.results64, go_sem, s0, s1, s2, s3, s4]) rfl ?_
  have hab := (DrawC.ab_under (DrawC.ab_under (DrawC.ab_under (DrawC.ab_under (DrawC.ab_under (DrawC.ab_under HA.out.1 (A := w.heap.size) (by omega) 4 (.slice (some ⟨M, 0, none⟩) rs.length c)) (A := (w.heap.size + 1)) (by omega) 0 (.int .i64 n)) (A := (w.heap.size + 1)) (by omega) 1 (.slice (some ⟨K, 0, none⟩) key.length kd)) (A := (w.heap.size + 1)) (by omega) 2 (.int .i64 b)) (A := (w.heap.size + 1)) (by omega) 3 (.int .i64 t)) (A := (w.heap.size + 1)) (by omega) 4 (.slice (some ⟨M, 0, none⟩) rs.length c))
  exact ⟨⟨K, kd, M, c, rs, rfl, ⟨(((((((HK5.out.set (R := w.heap.size) (by have := HK5.out.1; omega) _ _).set (R := (w.heap.size + 1)) (by have := HK5.out.1; omega) _ _).set (R := (w.heap.size + 1)) (by have := HK5.out.1; omega) _ _).set (R := (w.heap.size + 1)) (by have := HK5.out.1; omega) _ _).set (R := (w.heap.size + 1)) (by have := HK5.out.1; omega) _ _).set (R := (w.heap.size + 1)) (by have := HK5.out.1; omega) _ _)).down (by omega), ChnK.AO.down (ChnK.AB.ao hab) (by omega), HA.out.2.2⟩, hab.down (by omega), HA.out.2.1⟩, (set_low (set_low (set_low (set_low (set_low (set_low HB5.out (M := w.heap.size) (by omega) _ _) (M := (w.heap.size + 1)) (by omega) _ _) (M := (w.heap.size + 1)) (by omega) _ _) (M := (w.heap.size + 1)) (by omega) _ _) (M := (w.heap.size + 1)) (by omega) _ _) (M := (w.heap.size + 1)) (by omega) _ _)⟩
set_option maxHeartbeats 1600000 in
theorem l11Batch_any (n b : Int) (gk ok kc : Nat) (key : List Lab) (a : Option Addr) (cap : Nat) (P : List PAl) (w : World) (hk : Reads w (some ⟨gk, ok, none⟩) key) (hkl : key.length ≤ 1048576) (hr : RdN w a P) (hl : P.length ≤ 1048576) (hs : LenM P) :
    Calls Tryz.prog 74 #[.agg #[.int .i64 n, .slice (some ⟨gk, ok, none⟩) key.length kc, .int .i64 b, .slice a P.length cap]] w fun r w' => (∃ K kd M c rs, r = .returned (.agg #[.int .i64 n, .slice (some ⟨K, 0, none⟩) key.length kd, .int .i64 b, .slice (some ⟨M, 0, none⟩) rs.length c]) ∧ GB w.heap.size w' K key M 0 rs ∧ AB w.heap.size w' M c rs ∧ pals rs = P) ∧ Below w.heap.size w w' := by
  have HK : Hid (Reads w (some ⟨gk, ok, none⟩) key) := hk
  have HR : Hid (RdN w a P ∧ LenM P) := ⟨hr, hs⟩
  clear hk hr hs
  obtain ⟨i0, hi, hz0, hz1, hz2⟩ := info_parts infoL
  go_enter Tryz.func74, Tryz.ntmps74
  have HO : Hid ((((w.alloc (.cells #[.int .i64 n, .slice (some ⟨gk, ok, none⟩) key.length kc, .int .i64 b, .slice a P.length cap] 37)).alloc (.cells #[.int .i64 0, .slice none 0 0, .int .i64 0, .slice none 0 0] 37)).alloc (.cells #[] 99)).ownsRow (w.heap.size + 2) 99 2 (.slice (some ⟨w.heap.size + 2, 0, none⟩) 0 0) 0 []) := own_empty (Blk.new_at (by simp)) (Nat.le_refl _)
  go_wp2_with (at_builtin; refine wpList_append_own_at _ rfl _ _ 25 rfl (w.heap.size + 2) 99 i0 (.agg #[.string ByteArray.empty, .string ByteArray.empty]) 2 32 Tryz.underlying25 hi hz0 hz1 hz2 rfl (by decide) _ _ _ rfl HO.out ⟨gk, ok, none⟩ key.length kc (flat key) rfl (flat_len key) ?c1 (flat_one key) ?c3 ?c4 ?c5 ?_)
  case c1 => exact src_of (HK.out.below (Alm.below3 w _ _ _))
  case c3 => unfold maxLen; omega
  case c4 => omega
  case c5 => simp
  intro v' w4 hown hg hnil _
  have hlow : Below (w.heap.size + 2) ((w.alloc (.cells #[.int .i64 n, .slice (some ⟨gk, ok, none⟩) key.length kc, .int .i64 b, .slice a P.length cap] 37)).alloc (.cells #[.int .i64 0, .slice none 0 0, .int .i64 0, .slice none 0 0] 37)) w4 := ((Below.refl _ _).alloc (by simp) _).grown hg (by simp) (fun k hk => (HO.out.lt k hk).1)
  have hpl : w4.ownsRow (w.heap.size + 2) 99 2 v' key.length (flat key) := by simpa using hown
  obtain ⟨K, kd, hv⟩ : ∃ g' c', v' = .slice (some ⟨g', 0, none⟩) key.length c' := by
    rcases hpl.2 with ⟨e, _⟩ | ⟨g', c', cur, e, _⟩
    · exact absurd e hnil
    · exact ⟨g', c', e⟩
  subst hv
  have HW : Hid (OwnL (w.heap.size + 2) w4 K key) := own_row hpl
  have P4 : Hid (Blk w4 w.heap.size #[.int .i64 n, .slice (some ⟨gk, ok, none⟩) key.length kc, .int .i64 b, .slice a P.length cap] 37) := ((Blk.new _ _ _).alloc _).below hlow (by omega)
  have R4 : Hid (Blk w4 (w.heap.size + 1) #[.int .i64 0, .slice none 0 0, .int .i64 0, .slice none 0 0] 37) := (Blk.new_at (by simp)).below hlow (by omega)
  have HB : Hid (Below w.heap.size w w4) := (Go.Joins.below_alloc2 w _ _).trans (hlow.mono (by omega))
  have HL4 : Hid (w.heap.size + 2 ≤ w4.heap.size) := by unfold Hid; have := hlow.size; simpa using this
  have p1 := P4.out.cell 1
  have fp1 := P4.out.frozen 1
  have p3 := P4.out.cell 3
  simp at p1 p3
  clear hown hg hnil hlow hpl HO hi hz0 hz1 hz2
  go_wp2_with fail
  refine (ChnT.l4All_any a cap P _ (HR.out.1.below (set_low HB.out (M := w.heap.size) (Nat.le_refl _) _ _)) hl HR.out.2).mono ?_
  rintro r w5 ⟨⟨M, c, rs, rfl, hA, hP⟩, hb⟩
  have HA : Hid (AB (w.heap.size + 2) w5 M c rs ∧ pals rs = P ∧ ¬ blks M rs K) := ⟨hA.down (by simp; exact HL4.out), hP, fun h => by
    have h1 := ChnK.aoblks_low (ChnK.AB.ao hA) K h
    have h2 := HW.out.lt
    simp at h1
    omega⟩
  have P5 : Hid (Blk w5 w.heap.size #[.int .i64 n, .slice (some ⟨K, 0, none⟩) key.length kd, .int .i64 b, .slice a P.length cap] 37) := (P4.out.set 1 _).grow hb
  have R5 : Hid (Blk w5 (w.heap.size + 1) #[.int .i64 0, .slice none 0 0, .int .i64 0, .slice none 0 0] 37) := (R4.out.set_other (by show w.heap.size ≠ (w.heap.size + 1); omega) _).grow hb
  have HK5 : Hid (OwnL (w.heap.size + 2) w5 K key) := (HW.out.set (R := w.heap.size) (by have := HW.out.1; omega) _ _).grow hb
  have HB5 : Hid (Below w.heap.size w w5) := (set_low HB.out (M := w.heap.size) (Nat.le_refl _) _ _).trans (hb.mono (by simp; exact HB.out.size))
  clear hA hP hb p1 fp1 p3
  have p0 := P5.out.cell 0
  have r0 := R5.out.cell 0
  have fr0 := R5.out.frozen 0
  have p1 := P5.out.cell 1
  have r1 := R5.out.cell 1
  have fr1 := R5.out.frozen 1
  have p2 := P5.out.cell 2
  have r2 := R5.out.cell 2
  have fr2 := R5.out.frozen 2
  have p3 := P5.out.cell 3
  have r3 := R5.out.cell 3
  have fr3 := R5.out.frozen 3
  have fp := P5.out.frozen 3
  simp at p0 r0 p1 r1 p2 r2 p3 r3
  have hne : w.heap.size ≠ (w.heap.size + 1) := by omega
  go_wp2
  have hs : Blk _ (w.heap.size + 1) #[.int .i64 n, .slice (some ⟨K, 0, none⟩) key.length kd, .int .i64 b, .slice (some ⟨M, 0, none⟩) rs.length c] 37 := (((((R5.out.set_other (p := ⟨w.heap.size, 3, none⟩) (by show w.heap.size ≠ (w.heap.size + 1); omega) (.slice (some ⟨M, 0, none⟩) rs.length c)).set 0 (.int .i64 n)).set 1 (.slice (some ⟨K, 0, none⟩) key.length kd)).set 2 (.int .i64 b)).set 3 (.slice (some ⟨M, 0, none⟩) rs.length c))
  have s0 := hs.cell 0
  have s1 := hs.cell 1
  have s2 := hs.cell 2
  have s3 := hs.cell 3
  refine bodyPost_ret (v := .agg #[.int .i64 n, .slice (some ⟨K, 0, none⟩) key.length kd, .int .i64 b, .slice (some ⟨M, 0, none⟩) rs.length c]) (by simp [results, Tryz.results74, go_sem, s0, s1, s2, s3]) rfl ?_
  have hab := (DrawC.ab_under (DrawC.ab_under (DrawC.ab_under (DrawC.ab_under (DrawC.ab_under HA.out.1 (A := w.heap.size) (by omega) 3 (.slice (some ⟨M, 0, none⟩) rs.length c)) (A := (w.heap.size + 1)) (by omega) 0 (.int .i64 n)) (A := (w.heap.size + 1)) (by omega) 1 (.slice (some ⟨K, 0, none⟩) key.length kd)) (A := (w.heap.size + 1)) (by omega) 2 (.int .i64 b)) (A := (w.heap.size + 1)) (by omega) 3 (.slice (some ⟨M, 0, none⟩) rs.length c))
  exact ⟨⟨K, kd, M, c, rs, rfl, ⟨((((((HK5.out.set (R := w.heap.size) (by have := HK5.out.1; omega) _ _).set (R := (w.heap.size + 1)) (by have := HK5.out.1; omega) _ _).set (R := (w.heap.size + 1)) (by have := HK5.out.1; omega) _ _).set (R := (w.heap.size + 1)) (by have := HK5.out.1; omega) _ _).set (R := (w.heap.size + 1)) (by have := HK5.out.1; omega) _ _)).down (by omega), ChnK.AO.down (ChnK.AB.ao hab) (by omega), HA.out.2.2⟩, hab.down (by omega), HA.out.2.1⟩, (set_low (set_low (set_low (set_low (set_low HB5.out (M := w.heap.size) (by omega) _ _) (M := (w.heap.size + 1)) (by omega) _ _) (M := (w.heap.size + 1)) (by omega) _ _) (M := (w.heap.size + 1)) (by omega) _ _) (M := (w.heap.size + 1)) (by omega) _ _)⟩
end Go.Proofs.YtgncimlojbnbfaaGreat.GrpC
