/-
  PROVED: spec.l11Copy and spec.l11Batch give the same in memory of their own; nothing that was there is changed.
-/
import Derived.Test.YtgncimlojbnbfaaGrp
import Derived.Test.YtgncimlojbnbfaaLsA
namespace Go.Proofs.Ytgncimlojbnbfaa.GrpC
open Go.RowKit
open Go.Proofs.Ytgncimlojbnbfaa.Labs Go.Proofs.Ytgncimlojbnbfaa.LabS Go.Proofs.Ytgncimlojbnbfaa.LabR Go.Proofs.Ytgncimlojbnbfaa.Alms Go.Proofs.Ytgncimlojbnbfaa.AlmS Go.Proofs.Ytgncimlojbnbfaa.AlmM Go.Proofs.Ytgncimlojbnbfaa.Over Go.Proofs.Ytgncimlojbnbfaa.Blk Go.Proofs.Ytgncimlojbnbfaa.App Go.Proofs.Ytgncimlojbnbfaa.Rws Go.Proofs.Ytgncimlojbnbfaa.ChnI Go.Proofs.Ytgncimlojbnbfaa.ChnC Go.Proofs.Ytgncimlojbnbfaa.ChnK Go.Proofs.Ytgncimlojbnbfaa.Grp
open Go.Proofs.Ytgncimlojbnbfaa.StrB (retB)
open Go.Proofs.Ytgncimlojbnbfaa.LabT (Held infoL)
set_option linter.unusedVariables false
set_option maxHeartbeats 1600000 in
theorem l11Copy_any (n b t : Int) (gk ok kc : Nat) (key : List Lab) (a : Option Addr) (cap : Nat) (P : List PAl) (w : World) (hk : Reads w (some ⟨gk, ok, none⟩) key) (hkl : key.length ≤ 1048576) (hr : RdN w a P) (hl : P.length ≤ 1048576) (hs : LenM P) :
    Calls Try.prog 76 #[.agg #[.int .i64 n, .slice (some ⟨gk, ok, none⟩) key.length kc, .int .i64 b, .int .i64 t, .slice a P.length cap]] w fun r w' => (∃ K kd M c rs, r = .returned (.agg #[.int .i64 n, .slice (some ⟨K, 0, none⟩) key.length kd, .int .i64 b, .int .i64 t, .slice (some ⟨M, 0, none⟩) rs.length c]) ∧ GB w.heap.size w' K key M 0 rs ∧ AB w.heap.size w' M c rs ∧ pals rs = P) ∧ Below w.heap.size w w' := by
  have HK : Hid (Reads w (some ⟨gk, ok, none⟩) key) := hk
  have HR : Hid (RdN w a P ∧ LenM P) := ⟨hr, hs⟩
  clear hk hr hs
  obtain ⟨i0, hi, hz0, hz1, hz2⟩ := info_parts infoL
  go_enter Try.func76, Try.ntmps76
  have HO : Hid ((((w.alloc (.cells #[.int .i64 n, .slice (some ⟨gk, ok, none⟩) key.length kc, .int .i64 b, .int .i64 t, .slice a P.length cap] 67)).alloc (.cells #[.int .i64 0, .slice none 0 0, .int .i64 0, .int .i64 0, .slice none 0 0] 67)).alloc (.cells #[] 73)).ownsRow (w.heap.size + 2) 73 2 (.slice (some ⟨w.heap.size + 2, 0, none⟩) 0 0) 0 []) := own_empty (Blk.new_at (by simp)) (Nat.le_refl _)
  go_wp2_with (at_builtin; refine wpList_append_own_at _ rfl _ _ 36 rfl (w.heap.size + 2) 73 i0 (.agg #[.string ByteArray.empty, .string ByteArray.empty]) 2 32 Try.underlying36 hi hz0 hz1 hz2 rfl (by decide) _ _ _ rfl HO.out ⟨gk, ok, none⟩ key.length kc (flat key) rfl (flat_len key) ?c1 (flat_one key) ?c3 ?c4 ?c5 ?_)
  case c1 => exact src_of (HK.out.below (Alm.below3 w _ _ _))
  case c3 => unfold maxLen; omega
  case c4 => omega
  case c5 => simp
  intro v' w4 hown hg hnil _
  have hlow : Below (w.heap.size + 2) ((w.alloc (.cells #[.int .i64 n, .slice (some ⟨gk, ok, none⟩) key.length kc, .int .i64 b, .int .i64 t, .slice a P.length cap] 67)).alloc (.cells #[.int .i64 0, .slice none 0 0, .int .i64 0, .int .i64 0, .slice none 0 0] 67)) w4 := ((Below.refl _ _).alloc (by simp) _).grown hg (by simp) (fun k hk => (HO.out.lt k hk).1)
  have hpl : w4.ownsRow (w.heap.size + 2) 73 2 v' key.length (flat key) := by simpa using hown
  obtain ⟨K, kd, hv⟩ : ∃ g' c', v' = .slice (some ⟨g', 0, none⟩) key.length c' := by
    rcases hpl.2 with ⟨e, _⟩ | ⟨g', c', cur, e, _⟩
    · exact absurd e hnil
    · exact ⟨g', c', e⟩
  subst hv
  have HW : Hid (OwnL (w.heap.size + 2) w4 K key) := own_row hpl
  have P4 : Hid (Blk w4 w.heap.size #[.int .i64 n, .slice (some ⟨gk, ok, none⟩) key.length kc, .int .i64 b, .int .i64 t, .slice a P.length cap] 67) := ((Blk.new _ _ _).alloc _).below hlow (by omega)
  have R4 : Hid (Blk w4 (w.heap.size + 1) #[.int .i64 0, .slice none 0 0, .int .i64 0, .int .i64 0, .slice none 0 0] 67) := (Blk.new_at (by simp)).below hlow (by omega)
  have HB : Hid (Below w.heap.size w w4) := (Go.Joins.below_alloc2 w _ _).trans (hlow.mono (by omega))
  have HL4 : Hid (w.heap.size + 2 ≤ w4.heap.size) := by unfold Hid; have := hlow.size; simpa using this
  have p1 := P4.out.cell 1
  have fp1 := P4.out.frozen 1
  have p4 := P4.out.cell 4
  simp at p1 p4
  clear hown hg hnil hlow hpl HO hi hz0 hz1 hz2
  go_wp2_with fail
  refine (ChnT.l4All_any a cap P _ (HR.out.1.below (set_low HB.out (M := w.heap.size) (Nat.le_refl _) _ _)) hl HR.out.2).mono ?_
  rintro r w5 ⟨⟨M, c, rs, rfl, hA, hP⟩, hb⟩
  have HA : Hid (AB (w.heap.size + 2) w5 M c rs ∧ pals rs = P ∧ ¬ blks M rs K) := ⟨hA.down (by simp; exact HL4.out), hP, fun h => by
    have h1 := ChnK.aoblks_low (ChnK.AB.ao hA) K h
    have h2 := HW.out.lt
    simp at h1
    omega⟩
  have P5 : Hid (Blk w5 w.heap.size #[.int .i64 n, .slice (some ⟨K, 0, none⟩) key.length kd, .int .i64 b, .int .i64 t, .slice a P.length cap] 67) := (P4.out.set 1 _).grow hb
  have R5 : Hid (Blk w5 (w.heap.size + 1) #[.int .i64 0, .slice none 0 0, .int .i64 0, .int .i64 0, .slice none 0 0] 67) := (R4.out.set_other (by show w.heap.size ≠ (w.heap.size + 1); omega) _).grow hb
  have HK5 : Hid (OwnL (w.heap.size + 2) w5 K key) := (HW.out.set (R := w.heap.size) (by have := HW.out.1; omega) _ _).grow hb
  have HB5 : Hid (Below w.heap.size w w5) := (set_low HB.out (M := w.heap.size) (Nat.le_refl _) _ _).trans (hb.mono (by simp; exact HB.out.size))
  clear hA hP hb p1 fp1 p4
  have p0 := P5.out.cell 0
  have r0 := R5.out.cell 0
  have fr0 := R5.out.frozen 0
  have p1 := P5.out.cell 1
  have r1 := R5.out.cell 1
  have fr1 := R5.out.frozen 1
  have p2 := P5.out.cell 2
  have r2 := R5.out.cell 2
  have fr2 := R5.out.frozen 2
  have p3 := P5.out.cell 3
  have r3 := R5.out.cell 3
  have fr3 := R5.out.frozen 3
  have p4 := P5.out.cell 4
  have r4 := R5.out.cell 4
  have fr4 := R5.out.frozen 4
  have fp := P5.out.frozen 4
  simp at p0 r0 p1 r1 p2 r2 p3 r3 p4 r4
  have hne : w.heap.size ≠ (w.heap.size + 1) := by omega
  go_wp2
  have hs : Blk _ (w.heap.size + 1) #[.int .i64 n, .slice (some ⟨K, 0, none⟩) key.length kd, .int .i64 b, .int .i64 t, .slice (some ⟨M, 0, none⟩) rs.length c] 67 := ((((((R5.out.set_other (p := ⟨w.heap.size, 4, none⟩) (by show w.heap.size ≠ (w.heap.size + 1); omega) (.slice (some ⟨M, 0, none⟩) rs.length c)).set 0 (.int .i64 n)).set 1 (.slice (some ⟨K, 0, none⟩) key.length kd)).set 2 (.int .i64 b)).set 3 (.int .i64 t)).set 4 (.slice (some ⟨M, 0, none⟩) rs.length c))
  have s0 := hs.cell 0
  have s1 := hs.cell 1
  have s2 := hs.cell 2
  have s3 := hs.cell 3
  have s4 := hs.cell 4
  refine bodyPost_ret (v := .agg #[.int .i64 n, .slice (some ⟨K, 0, none⟩) key.length kd, .int .i64 b, .int .i64 t, .slice (some ⟨M, 0, none⟩) rs.length c]) (by simp [results, Try.results76, go_sem, s0, s1, s2, s3, s4]) rfl ?_
  have hab := (DrawC.ab_under (DrawC.ab_under (DrawC.ab_under (DrawC.ab_under (DrawC.ab_under (DrawC.ab_under HA.out.1 (A := w.heap.size) (by omega) 4 (.slice (some ⟨M, 0, none⟩) rs.length c)) (A := (w.heap.size + 1)) (by omega) 0 (.int .i64 n)) (A := (w.heap.size + 1)) (by omega) 1 (.slice (some ⟨K, 0, none⟩) key.length kd)) (A := (w.heap.size + 1)) (by omega) 2 (.int .i64 b)) (A := (w.heap.size + 1)) (by omega) 3 (.int .i64 t)) (A := (w.heap.size + 1)) (by omega) 4 (.slice (some ⟨M, 0, none⟩) rs.length c))
  exact ⟨⟨K, kd, M, c, rs, rfl, ⟨(((((((HK5.out.set (R := w.heap.size) (by have := HK5.out.1; omega) _ _).set (R := (w.heap.size + 1)) (by have := HK5.out.1; omega) _ _).set (R := (w.heap.size + 1)) (by have := HK5.out.1; omega) _ _).set (R := (w.heap.size + 1)) (by have := HK5.out.1; omega) _ _).set (R := (w.heap.size + 1)) (by have := HK5.out.1; omega) _ _).set (R := (w.heap.size + 1)) (by have := HK5.out.1; omega) _ _)).down (by omega), ChnK.AO.down (ChnK.AB.ao hab) (by omega), HA.out.2.2⟩, hab.down (by omega), HA.out.2.1⟩, (set_low (set_low (set_low (set_low (set_low (set_low HB5.out (M := w.heap.size) (by omega) _ _) (M := (w.heap.size + 1)) (by omega) _ _) (M := (w.heap.size + 1)) (by omega) _ _) (M := (w.heap.size + 1)) (by omega) _ _) (M := (w.heap.size + 1)) (by omega) _ _) (M := (w.heap.size + 1)) (by omega) _ _)⟩
set_option maxHeartbeats 1600000 in
theorem l11Batch_any (n b : Int) (gk ok kc : Nat) (key : List Lab) (a : Option Addr) (cap : Nat) (P : List PAl) (w : World) (hk : Reads w (some ⟨gk, ok, none⟩) key) (hkl : key.length ≤ 1048576) (hr : RdN w a P) (hl : P.length ≤ 1048576) (hs : LenM P) :
    Calls Try.prog 85 #[.agg #[.int .i64 n, .slice (some ⟨gk, ok, none⟩) key.length kc, .int .i64 b, .slice a P.length cap]] w fun r w' => (∃ K kd M c rs, r = .returned (.agg #[.int .i64 n, .slice (some ⟨K, 0, none⟩) key.length kd, .int .i64 b, .slice (some ⟨M, 0, none⟩) rs.length c]) ∧ GB w.heap.size w' K key M 0 rs ∧ AB w.heap.size w' M c rs ∧ pals rs = P) ∧ Below w.heap.size w w' := by
  have HK : Hid (Reads w (some ⟨gk, ok, none⟩) key) := hk
  have HR : Hid (RdN w a P ∧ LenM P) := ⟨hr, hs⟩
  clear hk hr hs
  obtain ⟨i0, hi, hz0, hz1, hz2⟩ := info_parts infoL
  go_enter Try.func85, Try.ntmps85
  have HO : Hid ((((w.alloc (.cells #[.int .i64 n, .slice (some ⟨gk, ok, none⟩) key.length kc, .int .i64 b, .slice a P.length cap] 55)).alloc (.cells #[.int .i64 0, .slice none 0 0, .int .i64 0, .slice none 0 0] 55)).alloc (.cells #[] 73)).ownsRow (w.heap.size + 2) 73 2 (.slice (some ⟨w.heap.size + 2, 0, none⟩) 0 0) 0 []) := own_empty (Blk.new_at (by simp)) (Nat.le_refl _)
  go_wp2_with (at_builtin; refine wpList_append_own_at _ rfl _ _ 36 rfl (w.heap.size + 2) 73 i0 (.agg #[.string ByteArray.empty, .string ByteArray.empty]) 2 32 Try.underlying36 hi hz0 hz1 hz2 rfl (by decide) _ _ _ rfl HO.out ⟨gk, ok, none⟩ key.length kc (flat key) rfl (flat_len key) ?c1 (flat_one key) ?c3 ?c4 ?c5 ?_)
  case c1 => exact src_of (HK.out.below (Alm.below3 w _ _ _))
  case c3 => unfold maxLen; omega
  case c4 => omega
  case c5 => simp
  intro v' w4 hown hg hnil _
  have hlow : Below (w.heap.size + 2) ((w.alloc (.cells #[.int .i64 n, .slice (some ⟨gk, ok, none⟩) key.length kc, .int .i64 b, .slice a P.length cap] 55)).alloc (.cells #[.int .i64 0, .slice none 0 0, .int .i64 0, .slice none 0 0] 55)) w4 := ((Below.refl _ _).alloc (by simp) _).grown hg (by simp) (fun k hk => (HO.out.lt k hk).1)
  have hpl : w4.ownsRow (w.heap.size + 2) 73 2 v' key.length (flat key) := by simpa using hown
  obtain ⟨K, kd, hv⟩ : ∃ g' c', v' = .slice (some ⟨g', 0, none⟩) key.length c' := by
    rcases hpl.2 with ⟨e, _⟩ | ⟨g', c', cur, e, _⟩
    · exact absurd e hnil
    · exact ⟨g', c', e⟩
  subst hv
  have HW : Hid (OwnL (w.heap.size + 2) w4 K key) := own_row hpl
  have P4 : Hid (Blk w4 w.heap.size #[.int .i64 n, .slice (some ⟨gk, ok, none⟩) key.length kc, .int .i64 b, .slice a P.length cap] 55) := ((Blk.new _ _ _).alloc _).below hlow (by omega)
  have R4 : Hid (Blk w4 (w.heap.size + 1) #[.int .i64 0, .slice none 0 0, .int .i64 0, .slice none 0 0] 55) := (Blk.new_at (by simp)).below hlow (by omega)
  have HB : Hid (Below w.heap.size w w4) := (Go.Joins.below_alloc2 w _ _).trans (hlow.mono (by omega))
  have HL4 : Hid (w.heap.size + 2 ≤ w4.heap.size) := by unfold Hid; have := hlow.size; simpa using this
  have p1 := P4.out.cell 1
  have fp1 := P4.out.frozen 1
  have p3 := P4.out.cell 3
  simp at p1 p3
  clear hown hg hnil hlow hpl HO hi hz0 hz1 hz2
  go_wp2_with fail
  refine (ChnT.l4All_any a cap P _ (HR.out.1.below (set_low HB.out (M := w.heap.size) (Nat.le_refl _) _ _)) hl HR.out.2).mono ?_
  rintro r w5 ⟨⟨M, c, rs, rfl, hA, hP⟩, hb⟩
  have HA : Hid (AB (w.heap.size + 2) w5 M c rs ∧ pals rs = P ∧ ¬ blks M rs K) := ⟨hA.down (by simp; exact HL4.out), hP, fun h => by
    have h1 := ChnK.aoblks_low (ChnK.AB.ao hA) K h
    have h2 := HW.out.lt
    simp at h1
    omega⟩
  have P5 : Hid (Blk w5 w.heap.size #[.int .i64 n, .slice (some ⟨K, 0, none⟩) key.length kd, .int .i64 b, .slice a P.length cap] 55) := (P4.out.set 1 _).grow hb
  have R5 : Hid (Blk w5 (w.heap.size + 1) #[.int .i64 0, .slice none 0 0, .int .i64 0, .slice none 0 0] 55) := (R4.out.set_other (by show w.heap.size ≠ (w.heap.size + 1); omega) _).grow hb
  have HK5 : Hid (OwnL (w.heap.size + 2) w5 K key) := (HW.out.set (R := w.heap.size) (by have := HW.out.1; omega) _ _).grow hb
  have HB5 : Hid (Below w.heap.size w w5) := (set_low HB.out (M := w.heap.size) (Nat.le_refl _) _ _).trans (hb.mono (by simp; exact HB.out.size))
  clear hA hP hb p1 fp1 p3
  have p0 := P5.out.cell 0
  have r0 := R5.out.cell 0
  have fr0 := R5.out.frozen 0
  have p1 := P5.out.cell 1
  have r1 := R5.out.cell 1
  have fr1 := R5.out.frozen 1
  have p2 := P5.out.cell 2
  have r2 := R5.out.cell 2
  have fr2 := R5.out.frozen 2
  have p3 := P5.out.cell 3
  have r3 := R5.out.cell 3
  have fr3 := R5.out.frozen 3
  have fp := P5.out.frozen 3
  simp at p0 r0 p1 r1 p2 r2 p3 r3
  have hne : w.heap.size ≠ (w.heap.size + 1) := by omega
  go_wp2
  have hs : Blk _ (w.heap.size + 1) #[.int .i64 n, .slice (some ⟨K, 0, none⟩) key.length kd, .int .i64 b, .slice (some ⟨M, 0, none⟩) rs.length c] 55 := (((((R5.out.set_other (p := ⟨w.heap.size, 3, none⟩) (by show w.heap.size ≠ (w.heap.size + 1); omega) (.slice (some ⟨M, 0, none⟩) rs.length c)).set 0 (.int .i64 n)).set 1 (.slice (some ⟨K, 0, none⟩) key.length kd)).set 2 (.int .i64 b)).set 3 (.slice (some ⟨M, 0, none⟩) rs.length c))
  have s0 := hs.cell 0
  have s1 := hs.cell 1
  have s2 := hs.cell 2
  have s3 := hs.cell 3
  refine bodyPost_ret (v := .agg #[.int .i64 n, .slice (some ⟨K, 0, none⟩) key.length kd, .int .i64 b, .slice (some ⟨M, 0, none⟩) rs.length c]) (by simp [results, Try.results85, go_sem, s0, s1, s2, s3]) rfl ?_
  have hab := (DrawC.ab_under (DrawC.ab_under (DrawC.ab_under (DrawC.ab_under (DrawC.ab_under HA.out.1 (A := w.heap.size) (by omega) 3 (.slice (some ⟨M, 0, none⟩) rs.length c)) (A := (w.heap.size + 1)) (by omega) 0 (.int .i64 n)) (A := (w.heap.size + 1)) (by omega) 1 (.slice (some ⟨K, 0, none⟩) key.length kd)) (A := (w.heap.size + 1)) (by omega) 2 (.int .i64 b)) (A := (w.heap.size + 1)) (by omega) 3 (.slice (some ⟨M, 0, none⟩) rs.length c))
  exact ⟨⟨K, kd, M, c, rs, rfl, ⟨((((((HK5.out.set (R := w.heap.size) (by have := HK5.out.1; omega) _ _).set (R := (w.heap.size + 1)) (by have := HK5.out.1; omega) _ _).set (R := (w.heap.size + 1)) (by have := HK5.out.1; omega) _ _).set (R := (w.heap.size + 1)) (by have := HK5.out.1; omega) _ _).set (R := (w.heap.size + 1)) (by have := HK5.out.1; omega) _ _)).down (by omega), ChnK.AO.down (ChnK.AB.ao hab) (by omega), HA.out.2.2⟩, hab.down (by omega), HA.out.2.1⟩, (set_low (set_low (set_low (set_low (set_low HB5.out (M := w.heap.size) (by omega) _ _) (M := (w.heap.size + 1)) (by omega) _ _) (M := (w.heap.size + 1)) (by omega) _ _) (M := (w.heap.size + 1)) (by omega) _ _) (M := (w.heap.size + 1)) (by omega) _ _)⟩
end Go.Proofs.Ytgncimlojbnbfaa.GrpC
