/-
  PROVED: at every slice of parts and every slice of labels impl.FindAlarm answers as spec.FindAlarm, leaves them as they were, keeps nothing of them, and its answer lies in memory of its own, so the law laws.FnExactFindAlarm returns true, whatever its arguments. No condition.
-/
import Derived.Test.YtbccaioahifloaaRows
import Derived.WalkKit
import Derived.ProofKit
import Derived.OpenShut
import Derived.ShutString
import Derived.ChangeOld
import Derived.Below
import Derived.WalkLawsBesides
import Derived.WalkSpells
import Derived.Test.YtbccaioahifloaaQStsF
import Derived.Test.YtbccaioahifloaaQStsM
import Derived.Deep.RegionHeld3
namespace Go.Proofs.Ytbccaioahifloaa.FnExactFindAlarm
open Go.ChangeShapes Go.WideShapes Go.ChangeAt Go.RowKit
open Go.ChangeMaps (open_string shut_string)
set_option linter.unusedVariables false

open Go.Proofs.Ytbccaioahifloaa.Labs Go.Proofs.Ytbccaioahifloaa.LabS Go.Proofs.Ytbccaioahifloaa.Over Go.Proofs.Ytbccaioahifloaa.Blk Go.Proofs.Ytbccaioahifloaa.Alms Go.Proofs.Ytbccaioahifloaa.Rws Go.Proofs.Ytbccaioahifloaa.ChnC Go.Proofs.Ytbccaioahifloaa.ChnK Go.Proofs.Ytbccaioahifloaa.Chs Go.Proofs.Ytbccaioahifloaa.Prt
open Go.Proofs.Ytbccaioahifloaa.Alm (AlIn)
open Go.Proofs.Ytbccaioahifloaa.LabT (held_reads)
open Go.Proofs.Ytbccaioahifloaa.PrtM (MC blksC blksC_low blksC_high sumM sumM_chs)
theorem len_of {rs : List ARow} {P : List PAl} (h : pals rs = P) : rs.length = P.length := by rw [← pals_len, h]
theorem lenc_of {cs : List CRow} {C : List PCh} (h : chs cs = C) : cs.length = C.length := by rw [← chs_len, h]
theorem eqA_any (M M' c c' lo lo' d d' : Nat) (rs rs' : List ARow) (P : List PAl) (w : World) (h : AB lo w M d rs) (h' : AB lo' w M' d' rs') (hp : pals rs = P) (hp' : pals rs' = P) (hl : P.length ≤ maxLen) (hz : FitsP P) :
    Calls Try.prog 86 #[.slice (some ⟨M, 0, none⟩) rs.length c, .slice (some ⟨M', 0, none⟩) rs'.length c'] w fun e w' => e = .returned (.bool true) ∧ Below w.heap.size w w' := by
  have h1 := h.rd
  have h2 := h'.rd
  rw [hp] at h1
  rw [hp'] at h2
  rw [len_of hp, len_of hp']
  exact Alms.eq_any _ _ c c' P w h1.rd h2.rd hl hz
theorem rng {lo : Nat} {w : World} {M c : Nat} {rs : List ARow} (h : AB lo w M c rs) : ∀ k, blks M rs k → lo ≤ k ∧ k < w.heap.size := fun k hk => ⟨blks_low h k hk, blks_high h k hk⟩
theorem rngC {lo : Nat} {w : World} {M c : Nat} {cs : List CRow} (h : CB lo w M c cs) : ∀ k, blksC M cs k → lo ≤ k ∧ k < w.heap.size := fun k hk => ⟨blksC_low h k hk, blksC_high h k hk⟩
theorem row_len {lo : Nat} {w : World} {M c : Nat} {rs : List ARow} (h : AB lo w M c rs) : ∀ x ∈ rs, x.2.2.l.length ≤ 1048576 := fun x hx => (h.rows x hx).2.1
theorem rowC_len {lo : Nat} {w : World} {M c : Nat} {cs : List CRow} {C : List PCh} (h : CB lo w M c cs) (hp : chs cs = C) (hs : sumC C ≤ 2000000) : ∀ x ∈ cs, x.rs.length ≤ 2000000 ∧ ∀ y ∈ x.rs, y.2.2.l.length ≤ 1048576 := fun x hx => by
  refine ⟨?_, row_len (h.rows.rows x hx)⟩
  have hm : x.ch ∈ C := by rw [← hp]; exact List.mem_map.2 ⟨x, hx, rfl⟩
  have h1 := sumC_mem hm
  have h2 := pals_len x.rs
  have h3 : x.ch.P = pals x.rs := rfl
  rw [h3] at h1
  omega
theorem marksC {cs : List CRow} {C : List PCh} (hp : chs cs = C) (hl : C.length ≤ 1100000) (hs : sumC C ≤ 2200000) : 1 + sumM cs ≤ 8000000 := by
  have h1 := sumM_chs cs
  rw [hp, lenc_of hp] at h1
  omega
open Go.Proofs.Ytbccaioahifloaa.Sts
open Go.Proofs.Ytbccaioahifloaa.StsM (MP blksS blksS_low blksS_high sumQ sumQ_pts Fine8 fine8 pb_only)
theorem rngS {lo : Nat} {w : World} {M c : Nat} {ps : List PRow} (h : PB lo w M c ps) : ∀ k, blksS M ps k → lo ≤ k ∧ k < w.heap.size := fun k hk => ⟨blksS_low h k hk, blksS_high h k hk⟩
theorem lent_of {ps : List PRow} {S : List PPt} (h : pts ps = S) : ps.length = S.length := by rw [← pts_len, h]
theorem marksT {ps : List PRow} {S : List PPt} (hp : pts ps = S) (hl : S.length ≤ 1100000) (hs : sumT S ≤ 1200000) : 1 + sumQ ps ≤ 8000000 := by
  have h1 := sumQ_pts ps
  rw [hp, lent_of hp] at h1
  omega
open Go.Proofs.Ytbccaioahifloaa.StsF (findS)
open Go.Proofs.Ytbccaioahifloaa.PrtJ (find_fit markNil_any heldNil_any)
open Go.Proofs.Ytbccaioahifloaa.Mark (Apart Marked)
theorem rnT {lo : Nat} {w : World} {M c : Nat} {ps : List PRow} {S : List PPt} (h : PB lo w M c ps) (hp : pts ps = S) : RdS RdN w (some ⟨M, 0, none⟩) S := by have := h.rn; rwa [hp] at this
theorem rdT {lo : Nat} {w : World} {M c : Nat} {ps : List PRow} {S : List PPt} (h : PB lo w M c ps) (hp : pts ps = S) : RdS RdA w (some ⟨M, 0, none⟩) S := (rnT h hp).rd
set_option maxRecDepth 100000 in
set_option maxHeartbeats 4000000 in
theorem walk (a0 : Option Addr) (cap0 : Nat) (l0 : List PPt) (a1 : Option Addr) (cap1 : Nat) (l1 : List Lab) (w : World) (r0 : RdS RdA w a0 l0) (m0 : l0.length ≤ maxLen) (z0 : FitsT l0) (r1 : Reads w a1 l1) (m1 : l1.length ≤ maxLen) (z1 : LabT.Fits l1) :
    Calls Try.prog 6 #[.slice a0 l0.length cap0, .slice a1 l1.length cap1] w fun e w' => e = .returned (.bool true) ∧ Below w.heap.size w w' := by
  have R0 : Hid (RdS RdA w a0 l0) := r0
  have M0 : Hid (l0.length ≤ maxLen) := m0
  have F0 : Hid (FitsT l0) := z0
  clear r0 m0 z0
  have R1 : Hid (Reads w a1 l1) := r1
  have M1 : Hid (l1.length ≤ maxLen) := m1
  have F1 : Hid (LabT.Fits l1) := z1
  clear r1 m1 z1
  have B0 : Hid (Below w.heap.size w w) := Below.refl _ _
  go_enter Try.func6, Try.ntmps6
  go_wp2_with fail
  refine (szPS_any a0 cap0 l0 1048576 _ (R0.out.below stays_rd B0.out) M0.out F0.out (by omega) (by omega)).mono ?_
  rintro e w1 ⟨⟨k0, rfl, p0, hn⟩, hb⟩
  have B1 : Hid (Below w.heap.size w w1) := grow_on B0.out hb
  have Z1 : Hid (w.heap.size ≤ w1.heap.size) := hb.size
  clear hb
  by_cases g0 : k0 < 0
  · clear hn
    go_wp2
    go_ret
    exact ⟨rfl, B1.out⟩
  have K0 : Hid (l0.length ≤ 1048576 ∧ sumT l0 ≤ 1048576 ∧ l0.length + sumT l0 ≤ 1048576) := by have := hn (by omega); exact ⟨by omega, by omega, by omega⟩
  clear hn
  go_wp2_with fail
  refine (LabT.sz_any a1 cap1 l1 k0 _ (R1.out.below B1.out) M1.out F1.out (by omega) (by omega)).mono ?_
  rintro e w2 ⟨⟨k1, rfl, p1, hn⟩, hb⟩
  have B2 : Hid (Below w.heap.size w w2) := grow_on B1.out hb
  have Z2 : Hid (w1.heap.size ≤ w2.heap.size) := hb.size
  clear hb
  by_cases g1 : k1 < 0
  · clear hn
    go_wp2
    go_ret
    exact ⟨rfl, B2.out⟩
  have K1 : Hid (l1.length ≤ 1048576) := by have := hn (by omega); show l1.length ≤ 1048576; omega
  clear hn
  rcases hFB : findS l0 l1 with _ | x
  · have FB : Hid (findS l0 l1 = none) := hFB
    clear hFB
    go_wp2_with fail
    refine (toPS_any a0 cap0 l0 _ (R0.out.below stays_rd B2.out) K0.out.1 K0.out.2.1).mono ?_
    rintro e w3 ⟨rfl, ⟨Sr, hA, hP, hO⟩, hb⟩
    have S_3 : Hid (PB w2.heap.size w3 w2.heap.size l0.length Sr) := (by first | exact hA | (have hA2 := hA; simp at hA2; exact hA2))
    have SP : Hid (pts Sr = l0 ∧ Own8 Sr) := ⟨hP, hO⟩
    have U_S : Hid (w2.heap.size ≤ w2.heap.size ∧ w2.heap.size < w3.heap.size) := ⟨by omega, S_3.out.lt⟩
    clear hA hP hO
    have B3 : Hid (Below w.heap.size w w3) := grow_on B2.out hb
    have Z3 : Hid (w2.heap.size ≤ w3.heap.size) := hb.size
    clear hb
    go_wp2_with fail
    refine (LabT.to_any a1 cap1 l1 _ (R1.out.below B3.out) K1.out).mono ?_
    rintro e w4 ⟨rfl, ⟨Tcs, hk, hs, hh⟩, hb⟩
    have T_4 : Hid (Blk w4 w3.heap.size Tcs 67) := (by first | exact hk | (have hk2 := hk; simp at hk2; exact hk2))
    have Ts : Hid (Tcs.size = l1.length * 2) := hs
    have Th : Hid (LabT.Held Tcs l1 l1.length) := hh
    have U_T : Hid (w3.heap.size ≤ w3.heap.size ∧ w3.heap.size < w4.heap.size) := ⟨by omega, T_4.out.lt⟩
    clear hk hs hh
    have B4 : Hid (Below w.heap.size w w4) := grow_on B3.out hb
    have Z4 : Hid (w3.heap.size ≤ w4.heap.size) := hb.size
    have S_4 : Hid (PB w2.heap.size w4 w2.heap.size l0.length Sr) := S_3.out.grow hb
    clear hb
    go_wp2_with fail
    refine (StsF.specFindA_no _ _ _ _ l0 l1 _ (rnT S_4.out SP.out.1) (held_reads T_4.out Th.out) K0.out.1 K0.out.2.1 M1.out F1.out FB.out).mono ?_
    rintro e w5 ⟨rfl, hb⟩
    have B5 : Hid (Below w.heap.size w w5) := grow_on B4.out hb
    have Z5 : Hid (w4.heap.size ≤ w5.heap.size) := hb.size
    have S_5 : Hid (PB w2.heap.size w5 w2.heap.size l0.length Sr) := S_4.out.grow hb
    have T_5 : Hid (Blk w5 w3.heap.size Tcs 67) := T_4.out.grow hb
    clear hb
    go_wp2_with fail
    refine (toPS_any a0 cap0 l0 _ (R0.out.below stays_rd (grow_on B5.out (Go.Joins.below_alloc1 w5 _))) K0.out.1 K0.out.2.1).mono ?_
    rintro e w6 ⟨rfl, ⟨Xr, hA, hP, hO⟩, hb⟩
    have X_6 : Hid (PB (w5.heap.size + 1) w6 (w5.heap.size + 1) l0.length Xr) := (by first | exact hA | (have hA2 := hA; simp at hA2; exact hA2))
    have XP : Hid (pts Xr = l0 ∧ Own8 Xr) := ⟨hP, hO⟩
    have U_X : Hid (w5.heap.size ≤ (w5.heap.size + 1) ∧ (w5.heap.size + 1) < w6.heap.size) := ⟨by omega, X_6.out.lt⟩
    clear hA hP hO
    have W0_6 : Hid (Blk w6 w5.heap.size #[.slice none 0 0, .int .i64 0, .int .i64 0, .string ByteArray.empty] 40) := (Blk.new _ _ _).grow hb
    have U_W0 : Hid (w5.heap.size ≤ w5.heap.size ∧ w5.heap.size < w6.heap.size) := ⟨Nat.le_refl _, W0_6.out.lt⟩
    replace hb := grow_on (Go.Joins.below_alloc1 w5 _) hb
    have B6 : Hid (Below w.heap.size w w6) := grow_on B5.out hb
    have Z6 : Hid (w5.heap.size ≤ w6.heap.size) := hb.size
    clear hb
    have XR : Hid (∀ k, blksS (w5.heap.size + 1) Xr k → (w5.heap.size + 1) ≤ k ∧ k < w6.heap.size) := rngS X_6.out
    have cW00 : w6.cell? ⟨w5.heap.size, 0, none⟩ = some (.slice none 0 0) := (W0_6.out).cell 0
    have cW01 : w6.cell? ⟨w5.heap.size, 1, none⟩ = some (.int .i64 0) := (W0_6.out).cell 1
    have cW02 : w6.cell? ⟨w5.heap.size, 2, none⟩ = some (.int .i64 0) := (W0_6.out).cell 2
    have cW03 : w6.cell? ⟨w5.heap.size, 3, none⟩ = some (.string ByteArray.empty) := (W0_6.out).cell 3
    go_wp2_with fail
    refine (LabT.to_any a1 cap1 l1 _ (R1.out.below B6.out) K1.out).mono ?_
    rintro e w7 ⟨rfl, ⟨Ycs, hk, hs, hh⟩, hb⟩
    have Y_7 : Hid (Blk w7 w6.heap.size Ycs 67) := (by first | exact hk | (have hk2 := hk; simp at hk2; exact hk2))
    have Ys : Hid (Ycs.size = l1.length * 2) := hs
    have Yh : Hid (LabT.Held Ycs l1 l1.length) := hh
    have U_Y : Hid (w6.heap.size ≤ w6.heap.size ∧ w6.heap.size < w7.heap.size) := ⟨by omega, Y_7.out.lt⟩
    clear hk hs hh
    have B7 : Hid (Below w.heap.size w w7) := grow_on B6.out hb
    have Z7 : Hid (w6.heap.size ≤ w7.heap.size) := hb.size
    have W0_7 : Hid (Blk w7 w5.heap.size #[.slice none 0 0, .int .i64 0, .int .i64 0, .string ByteArray.empty] 40) := W0_6.out.grow hb
    have X_7 : Hid (PB (w5.heap.size + 1) w7 (w5.heap.size + 1) l0.length Xr) := X_6.out.grow hb
    clear hb cW00 cW01 cW02 cW03
    have cW00 : w7.cell? ⟨w5.heap.size, 0, none⟩ = some (.slice none 0 0) := (W0_7.out).cell 0
    have cW01 : w7.cell? ⟨w5.heap.size, 1, none⟩ = some (.int .i64 0) := (W0_7.out).cell 1
    have cW02 : w7.cell? ⟨w5.heap.size, 2, none⟩ = some (.int .i64 0) := (W0_7.out).cell 2
    have cW03 : w7.cell? ⟨w5.heap.size, 3, none⟩ = some (.string ByteArray.empty) := (W0_7.out).cell 3
    go_wp2_with fail
    refine (StsF.implFindA_no _ _ _ _ l0 l1 _ (rdT X_7.out XP.out.1) (held_reads Y_7.out Yh.out) K0.out.1 K0.out.2.1 M1.out F1.out FB.out).mono ?_
    rintro e w8 ⟨rfl, hb⟩
    have B8 : Hid (Below w.heap.size w w8) := grow_on B7.out hb
    have Z8 : Hid (w7.heap.size ≤ w8.heap.size) := hb.size
    have W0_8 : Hid (Blk w8 w5.heap.size #[.slice none 0 0, .int .i64 0, .int .i64 0, .string ByteArray.empty] 40) := W0_7.out.grow hb
    have X_8 : Hid (PB (w5.heap.size + 1) w8 (w5.heap.size + 1) l0.length Xr) := X_7.out.grow hb
    have Y_8 : Hid (Blk w8 w6.heap.size Ycs 67) := Y_7.out.grow hb
    clear hb cW00 cW01 cW02 cW03
    have eA : Alm.sameB [] 0 0 ByteArray.empty [] 0 0 ByteArray.empty = true := Alm.same_self _ _ _ _
    have cW00 : (w8.alloc (.cells #[.slice none 0 0, .int .i64 0, .int .i64 0, .string ByteArray.empty] 40)).cell? ⟨w5.heap.size, 0, none⟩ = some (.slice none 0 0) := (W0_8.out.alloc _).cell 0
    have cW01 : (w8.alloc (.cells #[.slice none 0 0, .int .i64 0, .int .i64 0, .string ByteArray.empty] 40)).cell? ⟨w5.heap.size, 1, none⟩ = some (.int .i64 0) := (W0_8.out.alloc _).cell 1
    have cW02 : (w8.alloc (.cells #[.slice none 0 0, .int .i64 0, .int .i64 0, .string ByteArray.empty] 40)).cell? ⟨w5.heap.size, 2, none⟩ = some (.int .i64 0) := (W0_8.out.alloc _).cell 2
    have cW03 : (w8.alloc (.cells #[.slice none 0 0, .int .i64 0, .int .i64 0, .string ByteArray.empty] 40)).cell? ⟨w5.heap.size, 3, none⟩ = some (.string ByteArray.empty) := (W0_8.out.alloc _).cell 3
    go_wp2_with fail
    refine (Alm.eq_any none none 0 0 [] [] 0 0 0 0 ByteArray.empty ByteArray.empty _ (.inl rfl) (.inl rfl) (by simp) (by simp)).mono ?_
    rintro e w9 ⟨rfl, hb⟩
    have G0_9 : Hid (Blk w9 w8.heap.size #[.slice none 0 0, .int .i64 0, .int .i64 0, .string ByteArray.empty] 40) := (Blk.new _ _ _).grow hb
    have U_G0 : Hid (w8.heap.size ≤ w8.heap.size ∧ w8.heap.size < w9.heap.size) := ⟨Nat.le_refl _, G0_9.out.lt⟩
    replace hb := grow_on (Go.Joins.below_alloc1 w8 _) hb
    have B9 : Hid (Below w.heap.size w w9) := grow_on B8.out hb
    have Z9 : Hid (w8.heap.size ≤ w9.heap.size) := hb.size
    have W0_9 : Hid (Blk w9 w5.heap.size #[.slice none 0 0, .int .i64 0, .int .i64 0, .string ByteArray.empty] 40) := W0_8.out.grow hb
    have X_9 : Hid (PB (w5.heap.size + 1) w9 (w5.heap.size + 1) l0.length Xr) := X_8.out.grow hb
    have Y_9 : Hid (Blk w9 w6.heap.size Ycs 67) := Y_8.out.grow hb
    clear hb cW00 cW01 cW02 cW03
    have cW00 : w9.cell? ⟨w5.heap.size, 0, none⟩ = some (.slice none 0 0) := (W0_9.out).cell 0
    have cW01 : w9.cell? ⟨w5.heap.size, 1, none⟩ = some (.int .i64 0) := (W0_9.out).cell 1
    have cW02 : w9.cell? ⟨w5.heap.size, 2, none⟩ = some (.int .i64 0) := (W0_9.out).cell 2
    have cW03 : w9.cell? ⟨w5.heap.size, 3, none⟩ = some (.string ByteArray.empty) := (W0_9.out).cell 3
    have cG00 : w9.cell? ⟨w8.heap.size, 0, none⟩ = some (.slice none 0 0) := (G0_9.out).cell 0
    have cG01 : w9.cell? ⟨w8.heap.size, 1, none⟩ = some (.int .i64 0) := (G0_9.out).cell 1
    have cG02 : w9.cell? ⟨w8.heap.size, 2, none⟩ = some (.int .i64 0) := (G0_9.out).cell 2
    have cG03 : w9.cell? ⟨w8.heap.size, 3, none⟩ = some (.string ByteArray.empty) := (G0_9.out).cell 3
    go_wp2_with fail
    refine (toPS_any a0 cap0 l0 _ (R0.out.below stays_rd B9.out) K0.out.1 K0.out.2.1).mono ?_
    rintro e w10 ⟨rfl, ⟨Er, hA, hP, hO⟩, hb⟩
    have E_10 : Hid (PB w9.heap.size w10 w9.heap.size l0.length Er) := (by first | exact hA | (have hA2 := hA; simp at hA2; exact hA2))
    have EP : Hid (pts Er = l0 ∧ Own8 Er) := ⟨hP, hO⟩
    have U_E : Hid (w9.heap.size ≤ w9.heap.size ∧ w9.heap.size < w10.heap.size) := ⟨by omega, E_10.out.lt⟩
    clear hA hP hO
    have B10 : Hid (Below w.heap.size w w10) := grow_on B9.out hb
    have Z10 : Hid (w9.heap.size ≤ w10.heap.size) := hb.size
    have W0_10 : Hid (Blk w10 w5.heap.size #[.slice none 0 0, .int .i64 0, .int .i64 0, .string ByteArray.empty] 40) := W0_9.out.grow hb
    have X_10 : Hid (PB (w5.heap.size + 1) w10 (w5.heap.size + 1) l0.length Xr) := X_9.out.grow hb
    have Y_10 : Hid (Blk w10 w6.heap.size Ycs 67) := Y_9.out.grow hb
    have G0_10 : Hid (Blk w10 w8.heap.size #[.slice none 0 0, .int .i64 0, .int .i64 0, .string ByteArray.empty] 40) := G0_9.out.grow hb
    clear hb cW00 cW01 cW02 cW03 cG00 cG01 cG02 cG03
    have cW00 : w10.cell? ⟨w5.heap.size, 0, none⟩ = some (.slice none 0 0) := (W0_10.out).cell 0
    have cW01 : w10.cell? ⟨w5.heap.size, 1, none⟩ = some (.int .i64 0) := (W0_10.out).cell 1
    have cW02 : w10.cell? ⟨w5.heap.size, 2, none⟩ = some (.int .i64 0) := (W0_10.out).cell 2
    have cW03 : w10.cell? ⟨w5.heap.size, 3, none⟩ = some (.string ByteArray.empty) := (W0_10.out).cell 3
    have cG00 : w10.cell? ⟨w8.heap.size, 0, none⟩ = some (.slice none 0 0) := (G0_10.out).cell 0
    have cG01 : w10.cell? ⟨w8.heap.size, 1, none⟩ = some (.int .i64 0) := (G0_10.out).cell 1
    have cG02 : w10.cell? ⟨w8.heap.size, 2, none⟩ = some (.int .i64 0) := (G0_10.out).cell 2
    have cG03 : w10.cell? ⟨w8.heap.size, 3, none⟩ = some (.string ByteArray.empty) := (G0_10.out).cell 3
    go_wp2_with fail
    refine (eqPS_any _ _ _ _ l0 _ (rdT X_10.out XP.out.1) (rdT E_10.out EP.out.1) M0.out F0.out).mono ?_
    rintro e w11 ⟨rfl, hb⟩
    have B11 : Hid (Below w.heap.size w w11) := grow_on B10.out hb
    have Z11 : Hid (w10.heap.size ≤ w11.heap.size) := hb.size
    have W0_11 : Hid (Blk w11 w5.heap.size #[.slice none 0 0, .int .i64 0, .int .i64 0, .string ByteArray.empty] 40) := W0_10.out.grow hb
    have X_11 : Hid (PB (w5.heap.size + 1) w11 (w5.heap.size + 1) l0.length Xr) := X_10.out.grow hb
    have Y_11 : Hid (Blk w11 w6.heap.size Ycs 67) := Y_10.out.grow hb
    have G0_11 : Hid (Blk w11 w8.heap.size #[.slice none 0 0, .int .i64 0, .int .i64 0, .string ByteArray.empty] 40) := G0_10.out.grow hb
    have E_11 : Hid (PB w9.heap.size w11 w9.heap.size l0.length Er) := E_10.out.grow hb
    clear hb cW00 cW01 cW02 cW03 cG00 cG01 cG02 cG03
    have cW00 : w11.cell? ⟨w5.heap.size, 0, none⟩ = some (.slice none 0 0) := (W0_11.out).cell 0
    have cW01 : w11.cell? ⟨w5.heap.size, 1, none⟩ = some (.int .i64 0) := (W0_11.out).cell 1
    have cW02 : w11.cell? ⟨w5.heap.size, 2, none⟩ = some (.int .i64 0) := (W0_11.out).cell 2
    have cW03 : w11.cell? ⟨w5.heap.size, 3, none⟩ = some (.string ByteArray.empty) := (W0_11.out).cell 3
    have cG00 : w11.cell? ⟨w8.heap.size, 0, none⟩ = some (.slice none 0 0) := (G0_11.out).cell 0
    have cG01 : w11.cell? ⟨w8.heap.size, 1, none⟩ = some (.int .i64 0) := (G0_11.out).cell 1
    have cG02 : w11.cell? ⟨w8.heap.size, 2, none⟩ = some (.int .i64 0) := (G0_11.out).cell 2
    have cG03 : w11.cell? ⟨w8.heap.size, 3, none⟩ = some (.string ByteArray.empty) := (G0_11.out).cell 3
    go_wp2_with fail
    refine (LabT.to_any a1 cap1 l1 _ (R1.out.below B11.out) K1.out).mono ?_
    rintro e w12 ⟨rfl, ⟨Zcs, hk, hs, hh⟩, hb⟩
    have Z_12 : Hid (Blk w12 w11.heap.size Zcs 67) := (by first | exact hk | (have hk2 := hk; simp at hk2; exact hk2))
    have Zs : Hid (Zcs.size = l1.length * 2) := hs
    have Zh : Hid (LabT.Held Zcs l1 l1.length) := hh
    have U_Z : Hid (w11.heap.size ≤ w11.heap.size ∧ w11.heap.size < w12.heap.size) := ⟨by omega, Z_12.out.lt⟩
    clear hk hs hh
    have B12 : Hid (Below w.heap.size w w12) := grow_on B11.out hb
    have Z12 : Hid (w11.heap.size ≤ w12.heap.size) := hb.size
    have W0_12 : Hid (Blk w12 w5.heap.size #[.slice none 0 0, .int .i64 0, .int .i64 0, .string ByteArray.empty] 40) := W0_11.out.grow hb
    have X_12 : Hid (PB (w5.heap.size + 1) w12 (w5.heap.size + 1) l0.length Xr) := X_11.out.grow hb
    have Y_12 : Hid (Blk w12 w6.heap.size Ycs 67) := Y_11.out.grow hb
    have G0_12 : Hid (Blk w12 w8.heap.size #[.slice none 0 0, .int .i64 0, .int .i64 0, .string ByteArray.empty] 40) := G0_11.out.grow hb
    clear hb cW00 cW01 cW02 cW03 cG00 cG01 cG02 cG03
    have eL1 : decide (l1 = l1) = true := decide_eq_true rfl
    have cW00 : w12.cell? ⟨w5.heap.size, 0, none⟩ = some (.slice none 0 0) := (W0_12.out).cell 0
    have cW01 : w12.cell? ⟨w5.heap.size, 1, none⟩ = some (.int .i64 0) := (W0_12.out).cell 1
    have cW02 : w12.cell? ⟨w5.heap.size, 2, none⟩ = some (.int .i64 0) := (W0_12.out).cell 2
    have cW03 : w12.cell? ⟨w5.heap.size, 3, none⟩ = some (.string ByteArray.empty) := (W0_12.out).cell 3
    have cG00 : w12.cell? ⟨w8.heap.size, 0, none⟩ = some (.slice none 0 0) := (G0_12.out).cell 0
    have cG01 : w12.cell? ⟨w8.heap.size, 1, none⟩ = some (.int .i64 0) := (G0_12.out).cell 1
    have cG02 : w12.cell? ⟨w8.heap.size, 2, none⟩ = some (.int .i64 0) := (G0_12.out).cell 2
    have cG03 : w12.cell? ⟨w8.heap.size, 3, none⟩ = some (.string ByteArray.empty) := (G0_12.out).cell 3
    go_wp2_with fail
    refine (LabT.eq_any _ _ _ _ l1 l1 _ (held_reads Y_12.out Yh.out) (held_reads Z_12.out Zh.out) M1.out M1.out).mono ?_
    rintro e w13 ⟨rfl, hb⟩
    have B13 : Hid (Below w.heap.size w w13) := grow_on B12.out hb
    have Z13 : Hid (w12.heap.size ≤ w13.heap.size) := hb.size
    have W0_13 : Hid (Blk w13 w5.heap.size #[.slice none 0 0, .int .i64 0, .int .i64 0, .string ByteArray.empty] 40) := W0_12.out.grow hb
    have X_13 : Hid (PB (w5.heap.size + 1) w13 (w5.heap.size + 1) l0.length Xr) := X_12.out.grow hb
    have Y_13 : Hid (Blk w13 w6.heap.size Ycs 67) := Y_12.out.grow hb
    have G0_13 : Hid (Blk w13 w8.heap.size #[.slice none 0 0, .int .i64 0, .int .i64 0, .string ByteArray.empty] 40) := G0_12.out.grow hb
    have Z_13 : Hid (Blk w13 w11.heap.size Zcs 67) := Z_12.out.grow hb
    clear hb cW00 cW01 cW02 cW03 cG00 cG01 cG02 cG03
    have XL : Hid (Xr.length = l0.length) := lent_of XP.out.1
    have XS : Hid (1 + sumQ Xr ≤ 8000000) := marksT XP.out.1 (by have := K0.out; omega) (by have := K0.out; omega)
    have hXM : Hid (Calls Try.prog 14 #[.slice (some ⟨(w5.heap.size + 1), 0, none⟩) l0.length l0.length, .int .i64 1] w13 fun e w' => e = .returned (.int .i64 ((1 + sumQ Xr : Nat) : Int)) ∧ Only (blksS (w5.heap.size + 1) Xr) w13 w') := by
      have h := (StsM.markPS_any (w5.heap.size + 1) l0.length 1 _ l0.length Xr w13 X_13.out XP.out.2 (by rw [XL.out]; have := K0.out.1; omega) (fine8 X_13.out XP.out.1 (by have := K0.out; omega)) (by omega) (by have := XS.out; omega)).mono (fun e w' h => (⟨h.1, h.2.2⟩ : e = .returned (.int .i64 ((1 + sumQ Xr : Nat) : Int)) ∧ Only (blksS (w5.heap.size + 1) Xr) w13 w'))
      rw [XL.out] at h
      exact h
    have cW00 : w13.cell? ⟨w5.heap.size, 0, none⟩ = some (.slice none 0 0) := (W0_13.out).cell 0
    have cW01 : w13.cell? ⟨w5.heap.size, 1, none⟩ = some (.int .i64 0) := (W0_13.out).cell 1
    have cW02 : w13.cell? ⟨w5.heap.size, 2, none⟩ = some (.int .i64 0) := (W0_13.out).cell 2
    have cW03 : w13.cell? ⟨w5.heap.size, 3, none⟩ = some (.string ByteArray.empty) := (W0_13.out).cell 3
    have cG00 : w13.cell? ⟨w8.heap.size, 0, none⟩ = some (.slice none 0 0) := (G0_13.out).cell 0
    have cG01 : w13.cell? ⟨w8.heap.size, 1, none⟩ = some (.int .i64 0) := (G0_13.out).cell 1
    have cG02 : w13.cell? ⟨w8.heap.size, 2, none⟩ = some (.int .i64 0) := (G0_13.out).cell 2
    have cG03 : w13.cell? ⟨w8.heap.size, 3, none⟩ = some (.string ByteArray.empty) := (G0_13.out).cell 3
    go_wp2_with fail
    refine (hXM.out).mono ?_
    rintro e w14 ⟨rfl, ho⟩
    have B14 : Hid (Below w.heap.size w w14) := B13.out.trans (ho.low (fun k hk => by have hx := XR.out k hk; have hw := B5.out.size; omega) B13.out.size)
    have Z14 : Hid (w13.heap.size ≤ w14.heap.size) := ho.size
    have W0_14 : Hid (Blk w14 w5.heap.size #[.slice none 0 0, .int .i64 0, .int .i64 0, .string ByteArray.empty] 40) := ho.blk W0_13.out (fun hs => by have hx := XR.out _ hs; have h0 := Z1.out; have h1 := Z2.out; have h2 := Z3.out; have h3 := Z4.out; have h4 := Z5.out; have h5 := Z6.out; have h6 := Z7.out; have h7 := Z8.out; have h8 := Z9.out; have h9 := Z10.out; have h10 := Z11.out; have h11 := Z12.out; have h12 := Z13.out; have h13 := Z14.out; have h14 := U_S.out; have h15 := U_T.out; have h16 := U_W0.out; have h17 := U_X.out; have h18 := U_Y.out; have h19 := U_G0.out; have h20 := U_E.out; have h21 := U_Z.out; omega)
    have Y_14 : Hid (Blk w14 w6.heap.size Ycs 67) := ho.blk Y_13.out (fun hs => by have hx := XR.out _ hs; have h0 := Z1.out; have h1 := Z2.out; have h2 := Z3.out; have h3 := Z4.out; have h4 := Z5.out; have h5 := Z6.out; have h6 := Z7.out; have h7 := Z8.out; have h8 := Z9.out; have h9 := Z10.out; have h10 := Z11.out; have h11 := Z12.out; have h12 := Z13.out; have h13 := Z14.out; have h14 := U_S.out; have h15 := U_T.out; have h16 := U_W0.out; have h17 := U_X.out; have h18 := U_Y.out; have h19 := U_G0.out; have h20 := U_E.out; have h21 := U_Z.out; omega)
    have G0_14 : Hid (Blk w14 w8.heap.size #[.slice none 0 0, .int .i64 0, .int .i64 0, .string ByteArray.empty] 40) := ho.blk G0_13.out (fun hs => by have hx := XR.out _ hs; have h0 := Z1.out; have h1 := Z2.out; have h2 := Z3.out; have h3 := Z4.out; have h4 := Z5.out; have h5 := Z6.out; have h6 := Z7.out; have h7 := Z8.out; have h8 := Z9.out; have h9 := Z10.out; have h10 := Z11.out; have h11 := Z12.out; have h12 := Z13.out; have h13 := Z14.out; have h14 := U_S.out; have h15 := U_T.out; have h16 := U_W0.out; have h17 := U_X.out; have h18 := U_Y.out; have h19 := U_G0.out; have h20 := U_E.out; have h21 := U_Z.out; omega)
    clear ho cW00 cW01 cW02 cW03 cG00 cG01 cG02 cG03
    have MX : Hid (1 ≤ 1 + sumQ Xr ∧ 1 + sumQ Xr ≤ 10000000) := by have := XS.out; exact ⟨by omega, by omega⟩
    generalize 1 + sumQ Xr = m1 at MX ⊢
    have cW00 : w14.cell? ⟨w5.heap.size, 0, none⟩ = some (.slice none 0 0) := (W0_14.out).cell 0
    have cW01 : w14.cell? ⟨w5.heap.size, 1, none⟩ = some (.int .i64 0) := (W0_14.out).cell 1
    have cW02 : w14.cell? ⟨w5.heap.size, 2, none⟩ = some (.int .i64 0) := (W0_14.out).cell 2
    have cW03 : w14.cell? ⟨w5.heap.size, 3, none⟩ = some (.string ByteArray.empty) := (W0_14.out).cell 3
    have cG00 : w14.cell? ⟨w8.heap.size, 0, none⟩ = some (.slice none 0 0) := (G0_14.out).cell 0
    have cG01 : w14.cell? ⟨w8.heap.size, 1, none⟩ = some (.int .i64 0) := (G0_14.out).cell 1
    have cG02 : w14.cell? ⟨w8.heap.size, 2, none⟩ = some (.int .i64 0) := (G0_14.out).cell 2
    have cG03 : w14.cell? ⟨w8.heap.size, 3, none⟩ = some (.string ByteArray.empty) := (G0_14.out).cell 3
    go_wp2_with fail
    refine ((Mark.mark_any w6.heap.size l1.length l1.length m1 Ycs _ Y_14.out (by rw [Ys.out]; exact Nat.le_refl _) K1.out MX.out.1 MX.out.2).mono (fun e w' h => (⟨h.1, Only.apart (S := fun k => k = w6.heap.size) h.2.2 rfl⟩ : e = .returned (.int .i64 ((m1 + 2 * l1.length : Nat) : Int)) ∧ Only (fun k => k = w6.heap.size) w14 w'))).mono ?_
    rintro e w15 ⟨rfl, ho⟩
    have B15 : Hid (Below w.heap.size w w15) := B14.out.trans (ho.low (fun k hk => by have hk : k = w6.heap.size := hk; have hw := B6.out.size; have h0 := Z1.out; have h1 := Z2.out; have h2 := Z3.out; have h3 := Z4.out; have h4 := Z5.out; have h5 := Z6.out; have h6 := Z7.out; have h7 := Z8.out; have h8 := Z9.out; have h9 := Z10.out; have h10 := Z11.out; have h11 := Z12.out; have h12 := Z13.out; have h13 := Z14.out; have h14 := U_S.out; have h15 := U_T.out; have h16 := U_W0.out; have h17 := U_X.out; have h18 := U_Y.out; have h19 := U_G0.out; have h20 := U_E.out; have h21 := U_Z.out; omega) B14.out.size)
    have Z15 : Hid (w14.heap.size ≤ w15.heap.size) := ho.size
    have W0_15 : Hid (Blk w15 w5.heap.size #[.slice none 0 0, .int .i64 0, .int .i64 0, .string ByteArray.empty] 40) := ho.blk W0_14.out (fun hs => by have hs : _ = w6.heap.size := hs; have h0 := Z1.out; have h1 := Z2.out; have h2 := Z3.out; have h3 := Z4.out; have h4 := Z5.out; have h5 := Z6.out; have h6 := Z7.out; have h7 := Z8.out; have h8 := Z9.out; have h9 := Z10.out; have h10 := Z11.out; have h11 := Z12.out; have h12 := Z13.out; have h13 := Z14.out; have h14 := Z15.out; have h15 := U_S.out; have h16 := U_T.out; have h17 := U_W0.out; have h18 := U_X.out; have h19 := U_Y.out; have h20 := U_G0.out; have h21 := U_E.out; have h22 := U_Z.out; omega)
    have G0_15 : Hid (Blk w15 w8.heap.size #[.slice none 0 0, .int .i64 0, .int .i64 0, .string ByteArray.empty] 40) := ho.blk G0_14.out (fun hs => by have hs : _ = w6.heap.size := hs; have h0 := Z1.out; have h1 := Z2.out; have h2 := Z3.out; have h3 := Z4.out; have h4 := Z5.out; have h5 := Z6.out; have h6 := Z7.out; have h7 := Z8.out; have h8 := Z9.out; have h9 := Z10.out; have h10 := Z11.out; have h11 := Z12.out; have h12 := Z13.out; have h13 := Z14.out; have h14 := Z15.out; have h15 := U_S.out; have h16 := U_T.out; have h17 := U_W0.out; have h18 := U_X.out; have h19 := U_Y.out; have h20 := U_G0.out; have h21 := U_E.out; have h22 := U_Z.out; omega)
    clear ho cW00 cW01 cW02 cW03 cG00 cG01 cG02 cG03
    have hq : ¬ ((m1 + 2 * l1.length : Nat) : Int) < 0 := by omega
    generalize m1 + 2 * l1.length = m2 at hq ⊢
    have eA : Alm.sameB [] 0 0 ByteArray.empty [] 0 0 ByteArray.empty = true := Alm.same_self _ _ _ _
    have cW00 : w15.cell? ⟨w5.heap.size, 0, none⟩ = some (.slice none 0 0) := (W0_15.out).cell 0
    have cW01 : w15.cell? ⟨w5.heap.size, 1, none⟩ = some (.int .i64 0) := (W0_15.out).cell 1
    have cW02 : w15.cell? ⟨w5.heap.size, 2, none⟩ = some (.int .i64 0) := (W0_15.out).cell 2
    have cW03 : w15.cell? ⟨w5.heap.size, 3, none⟩ = some (.string ByteArray.empty) := (W0_15.out).cell 3
    have cG00 : w15.cell? ⟨w8.heap.size, 0, none⟩ = some (.slice none 0 0) := (G0_15.out).cell 0
    have cG01 : w15.cell? ⟨w8.heap.size, 1, none⟩ = some (.int .i64 0) := (G0_15.out).cell 1
    have cG02 : w15.cell? ⟨w8.heap.size, 2, none⟩ = some (.int .i64 0) := (G0_15.out).cell 2
    have cG03 : w15.cell? ⟨w8.heap.size, 3, none⟩ = some (.string ByteArray.empty) := (G0_15.out).cell 3
    go_wp2_with fail
    refine (Alm.eq_any none none 0 0 [] [] 0 0 0 0 ByteArray.empty ByteArray.empty _ (.inl rfl) (.inl rfl) (by simp) (by simp)).mono ?_
    rintro e w16 ⟨rfl, hb⟩
    have B16 : Hid (Below w.heap.size w w16) := grow_on B15.out hb
    have Z16 : Hid (w15.heap.size ≤ w16.heap.size) := hb.size
    have W0_16 : Hid (Blk w16 w5.heap.size #[.slice none 0 0, .int .i64 0, .int .i64 0, .string ByteArray.empty] 40) := W0_15.out.grow hb
    have G0_16 : Hid (Blk w16 w8.heap.size #[.slice none 0 0, .int .i64 0, .int .i64 0, .string ByteArray.empty] 40) := G0_15.out.grow hb
    clear hb cW00 cW01 cW02 cW03 cG00 cG01 cG02 cG03
    clear hq
    have cW00 : w16.cell? ⟨w5.heap.size, 0, none⟩ = some (.slice none 0 0) := (W0_16.out).cell 0
    have cW01 : w16.cell? ⟨w5.heap.size, 1, none⟩ = some (.int .i64 0) := (W0_16.out).cell 1
    have cW02 : w16.cell? ⟨w5.heap.size, 2, none⟩ = some (.int .i64 0) := (W0_16.out).cell 2
    have cW03 : w16.cell? ⟨w5.heap.size, 3, none⟩ = some (.string ByteArray.empty) := (W0_16.out).cell 3
    have cG00 : w16.cell? ⟨w8.heap.size, 0, none⟩ = some (.slice none 0 0) := (G0_16.out).cell 0
    have cG01 : w16.cell? ⟨w8.heap.size, 1, none⟩ = some (.int .i64 0) := (G0_16.out).cell 1
    have cG02 : w16.cell? ⟨w8.heap.size, 2, none⟩ = some (.int .i64 0) := (G0_16.out).cell 2
    have cG03 : w16.cell? ⟨w8.heap.size, 3, none⟩ = some (.string ByteArray.empty) := (G0_16.out).cell 3
    go_wp2_with fail
    refine (markNil_any 1 0 0 ByteArray.empty _ (by omega)).mono ?_
    rintro e w17 ⟨rfl, hb⟩
    have B17 : Hid (Below w.heap.size w w17) := grow_on B16.out hb
    have Z17 : Hid (w16.heap.size ≤ w17.heap.size) := hb.size
    have W0_17 : Hid (Blk w17 w5.heap.size #[.slice none 0 0, .int .i64 0, .int .i64 0, .string ByteArray.empty] 40) := W0_16.out.grow hb
    have G0_17 : Hid (Blk w17 w8.heap.size #[.slice none 0 0, .int .i64 0, .int .i64 0, .string ByteArray.empty] 40) := G0_16.out.grow hb
    clear hb cW00 cW01 cW02 cW03 cG00 cG01 cG02 cG03
    have cW00 : w17.cell? ⟨w5.heap.size, 0, none⟩ = some (.slice none 0 0) := (W0_17.out).cell 0
    have cW01 : w17.cell? ⟨w5.heap.size, 1, none⟩ = some (.int .i64 0) := (W0_17.out).cell 1
    have cW02 : w17.cell? ⟨w5.heap.size, 2, none⟩ = some (.int .i64 0) := (W0_17.out).cell 2
    have cW03 : w17.cell? ⟨w5.heap.size, 3, none⟩ = some (.string ByteArray.empty) := (W0_17.out).cell 3
    have cG00 : w17.cell? ⟨w8.heap.size, 0, none⟩ = some (.slice none 0 0) := (G0_17.out).cell 0
    have cG01 : w17.cell? ⟨w8.heap.size, 1, none⟩ = some (.int .i64 0) := (G0_17.out).cell 1
    have cG02 : w17.cell? ⟨w8.heap.size, 2, none⟩ = some (.int .i64 0) := (G0_17.out).cell 2
    have cG03 : w17.cell? ⟨w8.heap.size, 3, none⟩ = some (.string ByteArray.empty) := (G0_17.out).cell 3
    go_wp2_with fail
    refine (heldNil_any 1 0 0 ByteArray.empty _ (by omega)).mono ?_
    rintro e w18 ⟨rfl, hb⟩
    have B18 : Hid (Below w.heap.size w w18) := grow_on B17.out hb
    have Z18 : Hid (w17.heap.size ≤ w18.heap.size) := hb.size
    have W0_18 : Hid (Blk w18 w5.heap.size #[.slice none 0 0, .int .i64 0, .int .i64 0, .string ByteArray.empty] 40) := W0_17.out.grow hb
    have G0_18 : Hid (Blk w18 w8.heap.size #[.slice none 0 0, .int .i64 0, .int .i64 0, .string ByteArray.empty] 40) := G0_17.out.grow hb
    clear hb cW00 cW01 cW02 cW03 cG00 cG01 cG02 cG03
    have cW00 : w18.cell? ⟨w5.heap.size, 0, none⟩ = some (.slice none 0 0) := (W0_18.out).cell 0
    have cW01 : w18.cell? ⟨w5.heap.size, 1, none⟩ = some (.int .i64 0) := (W0_18.out).cell 1
    have cW02 : w18.cell? ⟨w5.heap.size, 2, none⟩ = some (.int .i64 0) := (W0_18.out).cell 2
    have cW03 : w18.cell? ⟨w5.heap.size, 3, none⟩ = some (.string ByteArray.empty) := (W0_18.out).cell 3
    have cG00 : w18.cell? ⟨w8.heap.size, 0, none⟩ = some (.slice none 0 0) := (G0_18.out).cell 0
    have cG01 : w18.cell? ⟨w8.heap.size, 1, none⟩ = some (.int .i64 0) := (G0_18.out).cell 1
    have cG02 : w18.cell? ⟨w8.heap.size, 2, none⟩ = some (.int .i64 0) := (G0_18.out).cell 2
    have cG03 : w18.cell? ⟨w8.heap.size, 3, none⟩ = some (.string ByteArray.empty) := (G0_18.out).cell 3
    go_wp2_with fail
    refine (toPS_any a0 cap0 l0 _ (R0.out.below stays_rd B18.out) K0.out.1 K0.out.2.1).mono ?_
    rintro e w19 ⟨rfl, ⟨Cr, hA, hP, hO⟩, hb⟩
    have C_19 : Hid (PB w18.heap.size w19 w18.heap.size l0.length Cr) := (by first | exact hA | (have hA2 := hA; simp at hA2; exact hA2))
    have CP : Hid (pts Cr = l0 ∧ Own8 Cr) := ⟨hP, hO⟩
    have U_C : Hid (w18.heap.size ≤ w18.heap.size ∧ w18.heap.size < w19.heap.size) := ⟨by omega, C_19.out.lt⟩
    clear hA hP hO
    have B19 : Hid (Below w.heap.size w w19) := grow_on B18.out hb
    have Z19 : Hid (w18.heap.size ≤ w19.heap.size) := hb.size
    have W0_19 : Hid (Blk w19 w5.heap.size #[.slice none 0 0, .int .i64 0, .int .i64 0, .string ByteArray.empty] 40) := W0_18.out.grow hb
    have G0_19 : Hid (Blk w19 w8.heap.size #[.slice none 0 0, .int .i64 0, .int .i64 0, .string ByteArray.empty] 40) := G0_18.out.grow hb
    clear hb cW00 cW01 cW02 cW03 cG00 cG01 cG02 cG03
    have cW00 : w19.cell? ⟨w5.heap.size, 0, none⟩ = some (.slice none 0 0) := (W0_19.out).cell 0
    have cW01 : w19.cell? ⟨w5.heap.size, 1, none⟩ = some (.int .i64 0) := (W0_19.out).cell 1
    have cW02 : w19.cell? ⟨w5.heap.size, 2, none⟩ = some (.int .i64 0) := (W0_19.out).cell 2
    have cW03 : w19.cell? ⟨w5.heap.size, 3, none⟩ = some (.string ByteArray.empty) := (W0_19.out).cell 3
    have cG00 : w19.cell? ⟨w8.heap.size, 0, none⟩ = some (.slice none 0 0) := (G0_19.out).cell 0
    have cG01 : w19.cell? ⟨w8.heap.size, 1, none⟩ = some (.int .i64 0) := (G0_19.out).cell 1
    have cG02 : w19.cell? ⟨w8.heap.size, 2, none⟩ = some (.int .i64 0) := (G0_19.out).cell 2
    have cG03 : w19.cell? ⟨w8.heap.size, 3, none⟩ = some (.string ByteArray.empty) := (G0_19.out).cell 3
    go_wp2_with fail
    refine (LabT.to_any a1 cap1 l1 _ (R1.out.below B19.out) K1.out).mono ?_
    rintro e w20 ⟨rfl, ⟨Dcs, hk, hs, hh⟩, hb⟩
    have D_20 : Hid (Blk w20 w19.heap.size Dcs 67) := (by first | exact hk | (have hk2 := hk; simp at hk2; exact hk2))
    have Ds : Hid (Dcs.size = l1.length * 2) := hs
    have Dh : Hid (LabT.Held Dcs l1 l1.length) := hh
    have U_D : Hid (w19.heap.size ≤ w19.heap.size ∧ w19.heap.size < w20.heap.size) := ⟨by omega, D_20.out.lt⟩
    clear hk hs hh
    have B20 : Hid (Below w.heap.size w w20) := grow_on B19.out hb
    have Z20 : Hid (w19.heap.size ≤ w20.heap.size) := hb.size
    have W0_20 : Hid (Blk w20 w5.heap.size #[.slice none 0 0, .int .i64 0, .int .i64 0, .string ByteArray.empty] 40) := W0_19.out.grow hb
    have G0_20 : Hid (Blk w20 w8.heap.size #[.slice none 0 0, .int .i64 0, .int .i64 0, .string ByteArray.empty] 40) := G0_19.out.grow hb
    have C_20 : Hid (PB w18.heap.size w20 w18.heap.size l0.length Cr) := C_19.out.grow hb
    clear hb cW00 cW01 cW02 cW03 cG00 cG01 cG02 cG03
    have cW00 : w20.cell? ⟨w5.heap.size, 0, none⟩ = some (.slice none 0 0) := (W0_20.out).cell 0
    have cW01 : w20.cell? ⟨w5.heap.size, 1, none⟩ = some (.int .i64 0) := (W0_20.out).cell 1
    have cW02 : w20.cell? ⟨w5.heap.size, 2, none⟩ = some (.int .i64 0) := (W0_20.out).cell 2
    have cW03 : w20.cell? ⟨w5.heap.size, 3, none⟩ = some (.string ByteArray.empty) := (W0_20.out).cell 3
    have cG00 : w20.cell? ⟨w8.heap.size, 0, none⟩ = some (.slice none 0 0) := (G0_20.out).cell 0
    have cG01 : w20.cell? ⟨w8.heap.size, 1, none⟩ = some (.int .i64 0) := (G0_20.out).cell 1
    have cG02 : w20.cell? ⟨w8.heap.size, 2, none⟩ = some (.int .i64 0) := (G0_20.out).cell 2
    have cG03 : w20.cell? ⟨w8.heap.size, 3, none⟩ = some (.string ByteArray.empty) := (G0_20.out).cell 3
    go_wp2_with fail
    refine (StsF.implFindA_no _ _ _ _ l0 l1 _ (rdT C_20.out CP.out.1) (held_reads D_20.out Dh.out) K0.out.1 K0.out.2.1 M1.out F1.out FB.out).mono ?_
    rintro e w21 ⟨rfl, hb⟩
    have B21 : Hid (Below w.heap.size w w21) := grow_on B20.out hb
    have Z21 : Hid (w20.heap.size ≤ w21.heap.size) := hb.size
    have W0_21 : Hid (Blk w21 w5.heap.size #[.slice none 0 0, .int .i64 0, .int .i64 0, .string ByteArray.empty] 40) := W0_20.out.grow hb
    have G0_21 : Hid (Blk w21 w8.heap.size #[.slice none 0 0, .int .i64 0, .int .i64 0, .string ByteArray.empty] 40) := G0_20.out.grow hb
    have C_21 : Hid (PB w18.heap.size w21 w18.heap.size l0.length Cr) := C_20.out.grow hb
    have D_21 : Hid (Blk w21 w19.heap.size Dcs 67) := D_20.out.grow hb
    clear hb cW00 cW01 cW02 cW03 cG00 cG01 cG02 cG03
    have eA : Alm.sameB [] 0 0 ByteArray.empty [] 0 0 ByteArray.empty = true := Alm.same_self _ _ _ _
    have cW00 : (w21.alloc (.cells #[.slice none 0 0, .int .i64 0, .int .i64 0, .string ByteArray.empty] 40)).cell? ⟨w5.heap.size, 0, none⟩ = some (.slice none 0 0) := (W0_21.out.alloc _).cell 0
    have cW01 : (w21.alloc (.cells #[.slice none 0 0, .int .i64 0, .int .i64 0, .string ByteArray.empty] 40)).cell? ⟨w5.heap.size, 1, none⟩ = some (.int .i64 0) := (W0_21.out.alloc _).cell 1
    have cW02 : (w21.alloc (.cells #[.slice none 0 0, .int .i64 0, .int .i64 0, .string ByteArray.empty] 40)).cell? ⟨w5.heap.size, 2, none⟩ = some (.int .i64 0) := (W0_21.out.alloc _).cell 2
    have cW03 : (w21.alloc (.cells #[.slice none 0 0, .int .i64 0, .int .i64 0, .string ByteArray.empty] 40)).cell? ⟨w5.heap.size, 3, none⟩ = some (.string ByteArray.empty) := (W0_21.out.alloc _).cell 3
    have cG00 : (w21.alloc (.cells #[.slice none 0 0, .int .i64 0, .int .i64 0, .string ByteArray.empty] 40)).cell? ⟨w8.heap.size, 0, none⟩ = some (.slice none 0 0) := (G0_21.out.alloc _).cell 0
    have cG01 : (w21.alloc (.cells #[.slice none 0 0, .int .i64 0, .int .i64 0, .string ByteArray.empty] 40)).cell? ⟨w8.heap.size, 1, none⟩ = some (.int .i64 0) := (G0_21.out.alloc _).cell 1
    have cG02 : (w21.alloc (.cells #[.slice none 0 0, .int .i64 0, .int .i64 0, .string ByteArray.empty] 40)).cell? ⟨w8.heap.size, 2, none⟩ = some (.int .i64 0) := (G0_21.out.alloc _).cell 2
    have cG03 : (w21.alloc (.cells #[.slice none 0 0, .int .i64 0, .int .i64 0, .string ByteArray.empty] 40)).cell? ⟨w8.heap.size, 3, none⟩ = some (.string ByteArray.empty) := (G0_21.out.alloc _).cell 3
    go_wp2_with fail
    refine (Alm.eq_any none none 0 0 [] [] 0 0 0 0 ByteArray.empty ByteArray.empty _ (.inl rfl) (.inl rfl) (by simp) (by simp)).mono ?_
    rintro e w22 ⟨rfl, hb⟩
    have E0_22 : Hid (Blk w22 w21.heap.size #[.slice none 0 0, .int .i64 0, .int .i64 0, .string ByteArray.empty] 40) := (Blk.new _ _ _).grow hb
    have U_E0 : Hid (w21.heap.size ≤ w21.heap.size ∧ w21.heap.size < w22.heap.size) := ⟨Nat.le_refl _, E0_22.out.lt⟩
    replace hb := grow_on (Go.Joins.below_alloc1 w21 _) hb
    have B22 : Hid (Below w.heap.size w w22) := grow_on B21.out hb
    have Z22 : Hid (w21.heap.size ≤ w22.heap.size) := hb.size
    have W0_22 : Hid (Blk w22 w5.heap.size #[.slice none 0 0, .int .i64 0, .int .i64 0, .string ByteArray.empty] 40) := W0_21.out.grow hb
    have G0_22 : Hid (Blk w22 w8.heap.size #[.slice none 0 0, .int .i64 0, .int .i64 0, .string ByteArray.empty] 40) := G0_21.out.grow hb
    clear hb cW00 cW01 cW02 cW03 cG00 cG01 cG02 cG03
    have cW00 : w22.cell? ⟨w5.heap.size, 0, none⟩ = some (.slice none 0 0) := (W0_22.out).cell 0
    have cW01 : w22.cell? ⟨w5.heap.size, 1, none⟩ = some (.int .i64 0) := (W0_22.out).cell 1
    have cW02 : w22.cell? ⟨w5.heap.size, 2, none⟩ = some (.int .i64 0) := (W0_22.out).cell 2
    have cW03 : w22.cell? ⟨w5.heap.size, 3, none⟩ = some (.string ByteArray.empty) := (W0_22.out).cell 3
    have cG00 : w22.cell? ⟨w8.heap.size, 0, none⟩ = some (.slice none 0 0) := (G0_22.out).cell 0
    have cG01 : w22.cell? ⟨w8.heap.size, 1, none⟩ = some (.int .i64 0) := (G0_22.out).cell 1
    have cG02 : w22.cell? ⟨w8.heap.size, 2, none⟩ = some (.int .i64 0) := (G0_22.out).cell 2
    have cG03 : w22.cell? ⟨w8.heap.size, 3, none⟩ = some (.string ByteArray.empty) := (G0_22.out).cell 3
    have cE00 : w22.cell? ⟨w21.heap.size, 0, none⟩ = some (.slice none 0 0) := (E0_22.out).cell 0
    have cE01 : w22.cell? ⟨w21.heap.size, 1, none⟩ = some (.int .i64 0) := (E0_22.out).cell 1
    have cE02 : w22.cell? ⟨w21.heap.size, 2, none⟩ = some (.int .i64 0) := (E0_22.out).cell 2
    have cE03 : w22.cell? ⟨w21.heap.size, 3, none⟩ = some (.string ByteArray.empty) := (E0_22.out).cell 3
    go_wp2_with fail
    refine (heldNil_any 1 0 0 ByteArray.empty _ (by omega)).mono ?_
    rintro e w23 ⟨rfl, hb⟩
    have B23 : Hid (Below w.heap.size w w23) := grow_on B22.out hb
    have Z23 : Hid (w22.heap.size ≤ w23.heap.size) := hb.size
    have W0_23 : Hid (Blk w23 w5.heap.size #[.slice none 0 0, .int .i64 0, .int .i64 0, .string ByteArray.empty] 40) := W0_22.out.grow hb
    have G0_23 : Hid (Blk w23 w8.heap.size #[.slice none 0 0, .int .i64 0, .int .i64 0, .string ByteArray.empty] 40) := G0_22.out.grow hb
    have E0_23 : Hid (Blk w23 w21.heap.size #[.slice none 0 0, .int .i64 0, .int .i64 0, .string ByteArray.empty] 40) := E0_22.out.grow hb
    clear hb cW00 cW01 cW02 cW03 cG00 cG01 cG02 cG03 cE00 cE01 cE02 cE03
    have cW00 : w23.cell? ⟨w5.heap.size, 0, none⟩ = some (.slice none 0 0) := (W0_23.out).cell 0
    have cW01 : w23.cell? ⟨w5.heap.size, 1, none⟩ = some (.int .i64 0) := (W0_23.out).cell 1
    have cW02 : w23.cell? ⟨w5.heap.size, 2, none⟩ = some (.int .i64 0) := (W0_23.out).cell 2
    have cW03 : w23.cell? ⟨w5.heap.size, 3, none⟩ = some (.string ByteArray.empty) := (W0_23.out).cell 3
    have cG00 : w23.cell? ⟨w8.heap.size, 0, none⟩ = some (.slice none 0 0) := (G0_23.out).cell 0
    have cG01 : w23.cell? ⟨w8.heap.size, 1, none⟩ = some (.int .i64 0) := (G0_23.out).cell 1
    have cG02 : w23.cell? ⟨w8.heap.size, 2, none⟩ = some (.int .i64 0) := (G0_23.out).cell 2
    have cG03 : w23.cell? ⟨w8.heap.size, 3, none⟩ = some (.string ByteArray.empty) := (G0_23.out).cell 3
    have cE00 : w23.cell? ⟨w21.heap.size, 0, none⟩ = some (.slice none 0 0) := (E0_23.out).cell 0
    have cE01 : w23.cell? ⟨w21.heap.size, 1, none⟩ = some (.int .i64 0) := (E0_23.out).cell 1
    have cE02 : w23.cell? ⟨w21.heap.size, 2, none⟩ = some (.int .i64 0) := (E0_23.out).cell 2
    have cE03 : w23.cell? ⟨w21.heap.size, 3, none⟩ = some (.string ByteArray.empty) := (E0_23.out).cell 3
    go_wp2
    go_ret
    exact ⟨rfl, B23.out⟩
  · have FB : Hid (findS l0 l1 = some x) := hFB
    clear hFB
    have FX : Hid (FitA x ∧ x.l.length ≤ 1048576) := StsF.find_fitS FB.out F0.out K0.out.2.1
    go_wp2_with fail
    refine (toPS_any a0 cap0 l0 _ (R0.out.below stays_rd B2.out) K0.out.1 K0.out.2.1).mono ?_
    rintro e w3 ⟨rfl, ⟨Sr, hA, hP, hO⟩, hb⟩
    have S_3 : Hid (PB w2.heap.size w3 w2.heap.size l0.length Sr) := (by first | exact hA | (have hA2 := hA; simp at hA2; exact hA2))
    have SP : Hid (pts Sr = l0 ∧ Own8 Sr) := ⟨hP, hO⟩
    have U_S : Hid (w2.heap.size ≤ w2.heap.size ∧ w2.heap.size < w3.heap.size) := ⟨by omega, S_3.out.lt⟩
    clear hA hP hO
    have B3 : Hid (Below w.heap.size w w3) := grow_on B2.out hb
    have Z3 : Hid (w2.heap.size ≤ w3.heap.size) := hb.size
    clear hb
    go_wp2_with fail
    refine (LabT.to_any a1 cap1 l1 _ (R1.out.below B3.out) K1.out).mono ?_
    rintro e w4 ⟨rfl, ⟨Tcs, hk, hs, hh⟩, hb⟩
    have T_4 : Hid (Blk w4 w3.heap.size Tcs 67) := (by first | exact hk | (have hk2 := hk; simp at hk2; exact hk2))
    have Ts : Hid (Tcs.size = l1.length * 2) := hs
    have Th : Hid (LabT.Held Tcs l1 l1.length) := hh
    have U_T : Hid (w3.heap.size ≤ w3.heap.size ∧ w3.heap.size < w4.heap.size) := ⟨by omega, T_4.out.lt⟩
    clear hk hs hh
    have B4 : Hid (Below w.heap.size w w4) := grow_on B3.out hb
    have Z4 : Hid (w3.heap.size ≤ w4.heap.size) := hb.size
    have S_4 : Hid (PB w2.heap.size w4 w2.heap.size l0.length Sr) := S_3.out.grow hb
    clear hb
    go_wp2_with fail
    refine (StsF.specFindA_yes _ _ _ _ l0 l1 x _ (rnT S_4.out SP.out.1) (held_reads T_4.out Th.out) K0.out.1 K0.out.2.1 M1.out F1.out FB.out).mono ?_
    rintro e w5 ⟨⟨WM, Wc, rfl, hO⟩, hb⟩
    obtain ⟨hO1, Wcs, hO2, hO3, hO4⟩ := hO
    have W_5 : Hid (Blk w5 WM Wcs 67) := hO2
    have Ws : Hid (x.l.length * 2 ≤ Wcs.size) := hO3
    have Wh : Hid (LabT.Held Wcs x.l x.l.length) := hO4
    have U_W : Hid (w4.heap.size ≤ WM ∧ WM < w5.heap.size) := ⟨hO1, hO2.lt⟩
    clear hO1 hO2 hO3 hO4
    have B5 : Hid (Below w.heap.size w w5) := grow_on B4.out hb
    have Z5 : Hid (w4.heap.size ≤ w5.heap.size) := hb.size
    have S_5 : Hid (PB w2.heap.size w5 w2.heap.size l0.length Sr) := S_4.out.grow hb
    have T_5 : Hid (Blk w5 w3.heap.size Tcs 67) := T_4.out.grow hb
    clear hb
    go_wp2_with fail
    refine (toPS_any a0 cap0 l0 _ (R0.out.below stays_rd (grow_on B5.out (Go.Joins.below_alloc1 w5 _))) K0.out.1 K0.out.2.1).mono ?_
    rintro e w6 ⟨rfl, ⟨Xr, hA, hP, hO⟩, hb⟩
    have X_6 : Hid (PB (w5.heap.size + 1) w6 (w5.heap.size + 1) l0.length Xr) := (by first | exact hA | (have hA2 := hA; simp at hA2; exact hA2))
    have XP : Hid (pts Xr = l0 ∧ Own8 Xr) := ⟨hP, hO⟩
    have U_X : Hid (w5.heap.size ≤ (w5.heap.size + 1) ∧ (w5.heap.size + 1) < w6.heap.size) := ⟨by omega, X_6.out.lt⟩
    clear hA hP hO
    have W0_6 : Hid (Blk w6 w5.heap.size #[.slice (some ⟨WM, 0, none⟩) x.l.length Wc, .int .i64 x.s, .int .i64 x.e, .string x.n] 40) := (Blk.new _ _ _).grow hb
    have U_W0 : Hid (w5.heap.size ≤ w5.heap.size ∧ w5.heap.size < w6.heap.size) := ⟨Nat.le_refl _, W0_6.out.lt⟩
    replace hb := grow_on (Go.Joins.below_alloc1 w5 _) hb
    have B6 : Hid (Below w.heap.size w w6) := grow_on B5.out hb
    have Z6 : Hid (w5.heap.size ≤ w6.heap.size) := hb.size
    have W_6 : Hid (Blk w6 WM Wcs 67) := W_5.out.grow hb
    clear hb
    have XR : Hid (∀ k, blksS (w5.heap.size + 1) Xr k → (w5.heap.size + 1) ≤ k ∧ k < w6.heap.size) := rngS X_6.out
    have cW00 : w6.cell? ⟨w5.heap.size, 0, none⟩ = some (.slice (some ⟨WM, 0, none⟩) x.l.length Wc) := (W0_6.out).cell 0
    have cW01 : w6.cell? ⟨w5.heap.size, 1, none⟩ = some (.int .i64 x.s) := (W0_6.out).cell 1
    have cW02 : w6.cell? ⟨w5.heap.size, 2, none⟩ = some (.int .i64 x.e) := (W0_6.out).cell 2
    have cW03 : w6.cell? ⟨w5.heap.size, 3, none⟩ = some (.string x.n) := (W0_6.out).cell 3
    go_wp2_with fail
    refine (LabT.to_any a1 cap1 l1 _ (R1.out.below B6.out) K1.out).mono ?_
    rintro e w7 ⟨rfl, ⟨Ycs, hk, hs, hh⟩, hb⟩
    have Y_7 : Hid (Blk w7 w6.heap.size Ycs 67) := (by first | exact hk | (have hk2 := hk; simp at hk2; exact hk2))
    have Ys : Hid (Ycs.size = l1.length * 2) := hs
    have Yh : Hid (LabT.Held Ycs l1 l1.length) := hh
    have U_Y : Hid (w6.heap.size ≤ w6.heap.size ∧ w6.heap.size < w7.heap.size) := ⟨by omega, Y_7.out.lt⟩
    clear hk hs hh
    have B7 : Hid (Below w.heap.size w w7) := grow_on B6.out hb
    have Z7 : Hid (w6.heap.size ≤ w7.heap.size) := hb.size
    have W_7 : Hid (Blk w7 WM Wcs 67) := W_6.out.grow hb
    have W0_7 : Hid (Blk w7 w5.heap.size #[.slice (some ⟨WM, 0, none⟩) x.l.length Wc, .int .i64 x.s, .int .i64 x.e, .string x.n] 40) := W0_6.out.grow hb
    have X_7 : Hid (PB (w5.heap.size + 1) w7 (w5.heap.size + 1) l0.length Xr) := X_6.out.grow hb
    clear hb cW00 cW01 cW02 cW03
    have cW00 : w7.cell? ⟨w5.heap.size, 0, none⟩ = some (.slice (some ⟨WM, 0, none⟩) x.l.length Wc) := (W0_7.out).cell 0
    have cW01 : w7.cell? ⟨w5.heap.size, 1, none⟩ = some (.int .i64 x.s) := (W0_7.out).cell 1
    have cW02 : w7.cell? ⟨w5.heap.size, 2, none⟩ = some (.int .i64 x.e) := (W0_7.out).cell 2
    have cW03 : w7.cell? ⟨w5.heap.size, 3, none⟩ = some (.string x.n) := (W0_7.out).cell 3
    go_wp2_with fail
    refine (StsF.implFindA_yes _ _ _ _ l0 l1 x _ (rdT X_7.out XP.out.1) (held_reads Y_7.out Yh.out) K0.out.1 K0.out.2.1 M1.out F1.out FB.out).mono ?_
    rintro e w8 ⟨⟨GM, Gc, rfl, hO⟩, hb⟩
    obtain ⟨hO1, Gcs, hO2, hO3, hO4⟩ := hO
    have G_8 : Hid (Blk w8 GM Gcs 67) := hO2
    have Gs : Hid (x.l.length * 2 ≤ Gcs.size) := hO3
    have Gh : Hid (LabT.Held Gcs x.l x.l.length) := hO4
    have U_G : Hid (w7.heap.size ≤ GM ∧ GM < w8.heap.size) := ⟨hO1, hO2.lt⟩
    clear hO1 hO2 hO3 hO4
    have B8 : Hid (Below w.heap.size w w8) := grow_on B7.out hb
    have Z8 : Hid (w7.heap.size ≤ w8.heap.size) := hb.size
    have W_8 : Hid (Blk w8 WM Wcs 67) := W_7.out.grow hb
    have W0_8 : Hid (Blk w8 w5.heap.size #[.slice (some ⟨WM, 0, none⟩) x.l.length Wc, .int .i64 x.s, .int .i64 x.e, .string x.n] 40) := W0_7.out.grow hb
    have X_8 : Hid (PB (w5.heap.size + 1) w8 (w5.heap.size + 1) l0.length Xr) := X_7.out.grow hb
    have Y_8 : Hid (Blk w8 w6.heap.size Ycs 67) := Y_7.out.grow hb
    clear hb cW00 cW01 cW02 cW03
    have eA : Alm.sameB x.l x.s x.e x.n x.l x.s x.e x.n = true := Alm.same_self _ _ _ _
    have cW00 : (w8.alloc (.cells #[.slice (some ⟨GM, 0, none⟩) x.l.length Gc, .int .i64 x.s, .int .i64 x.e, .string x.n] 40)).cell? ⟨w5.heap.size, 0, none⟩ = some (.slice (some ⟨WM, 0, none⟩) x.l.length Wc) := (W0_8.out.alloc _).cell 0
    have cW01 : (w8.alloc (.cells #[.slice (some ⟨GM, 0, none⟩) x.l.length Gc, .int .i64 x.s, .int .i64 x.e, .string x.n] 40)).cell? ⟨w5.heap.size, 1, none⟩ = some (.int .i64 x.s) := (W0_8.out.alloc _).cell 1
    have cW02 : (w8.alloc (.cells #[.slice (some ⟨GM, 0, none⟩) x.l.length Gc, .int .i64 x.s, .int .i64 x.e, .string x.n] 40)).cell? ⟨w5.heap.size, 2, none⟩ = some (.int .i64 x.e) := (W0_8.out.alloc _).cell 2
    have cW03 : (w8.alloc (.cells #[.slice (some ⟨GM, 0, none⟩) x.l.length Gc, .int .i64 x.s, .int .i64 x.e, .string x.n] 40)).cell? ⟨w5.heap.size, 3, none⟩ = some (.string x.n) := (W0_8.out.alloc _).cell 3
    go_wp2_with fail
    refine (Alm.eq_any _ _ _ _ x.l x.l x.s x.e x.s x.e x.n x.n _ ((held_reads G_8.out Gh.out).below (Go.Joins.below_alloc1 w8 _)) ((held_reads W_8.out Wh.out).below (Go.Joins.below_alloc1 w8 _)) FX.out.1.len FX.out.1.len).mono ?_
    rintro e w9 ⟨rfl, hb⟩
    have G0_9 : Hid (Blk w9 w8.heap.size #[.slice (some ⟨GM, 0, none⟩) x.l.length Gc, .int .i64 x.s, .int .i64 x.e, .string x.n] 40) := (Blk.new _ _ _).grow hb
    have U_G0 : Hid (w8.heap.size ≤ w8.heap.size ∧ w8.heap.size < w9.heap.size) := ⟨Nat.le_refl _, G0_9.out.lt⟩
    replace hb := grow_on (Go.Joins.below_alloc1 w8 _) hb
    have B9 : Hid (Below w.heap.size w w9) := grow_on B8.out hb
    have Z9 : Hid (w8.heap.size ≤ w9.heap.size) := hb.size
    have W_9 : Hid (Blk w9 WM Wcs 67) := W_8.out.grow hb
    have W0_9 : Hid (Blk w9 w5.heap.size #[.slice (some ⟨WM, 0, none⟩) x.l.length Wc, .int .i64 x.s, .int .i64 x.e, .string x.n] 40) := W0_8.out.grow hb
    have X_9 : Hid (PB (w5.heap.size + 1) w9 (w5.heap.size + 1) l0.length Xr) := X_8.out.grow hb
    have Y_9 : Hid (Blk w9 w6.heap.size Ycs 67) := Y_8.out.grow hb
    have G_9 : Hid (Blk w9 GM Gcs 67) := G_8.out.grow hb
    clear hb cW00 cW01 cW02 cW03
    have cW00 : w9.cell? ⟨w5.heap.size, 0, none⟩ = some (.slice (some ⟨WM, 0, none⟩) x.l.length Wc) := (W0_9.out).cell 0
    have cW01 : w9.cell? ⟨w5.heap.size, 1, none⟩ = some (.int .i64 x.s) := (W0_9.out).cell 1
    have cW02 : w9.cell? ⟨w5.heap.size, 2, none⟩ = some (.int .i64 x.e) := (W0_9.out).cell 2
    have cW03 : w9.cell? ⟨w5.heap.size, 3, none⟩ = some (.string x.n) := (W0_9.out).cell 3
    have cG00 : w9.cell? ⟨w8.heap.size, 0, none⟩ = some (.slice (some ⟨GM, 0, none⟩) x.l.length Gc) := (G0_9.out).cell 0
    have cG01 : w9.cell? ⟨w8.heap.size, 1, none⟩ = some (.int .i64 x.s) := (G0_9.out).cell 1
    have cG02 : w9.cell? ⟨w8.heap.size, 2, none⟩ = some (.int .i64 x.e) := (G0_9.out).cell 2
    have cG03 : w9.cell? ⟨w8.heap.size, 3, none⟩ = some (.string x.n) := (G0_9.out).cell 3
    go_wp2_with fail
    refine (toPS_any a0 cap0 l0 _ (R0.out.below stays_rd B9.out) K0.out.1 K0.out.2.1).mono ?_
    rintro e w10 ⟨rfl, ⟨Er, hA, hP, hO⟩, hb⟩
    have E_10 : Hid (PB w9.heap.size w10 w9.heap.size l0.length Er) := (by first | exact hA | (have hA2 := hA; simp at hA2; exact hA2))
    have EP : Hid (pts Er = l0 ∧ Own8 Er) := ⟨hP, hO⟩
    have U_E : Hid (w9.heap.size ≤ w9.heap.size ∧ w9.heap.size < w10.heap.size) := ⟨by omega, E_10.out.lt⟩
    clear hA hP hO
    have B10 : Hid (Below w.heap.size w w10) := grow_on B9.out hb
    have Z10 : Hid (w9.heap.size ≤ w10.heap.size) := hb.size
    have W_10 : Hid (Blk w10 WM Wcs 67) := W_9.out.grow hb
    have W0_10 : Hid (Blk w10 w5.heap.size #[.slice (some ⟨WM, 0, none⟩) x.l.length Wc, .int .i64 x.s, .int .i64 x.e, .string x.n] 40) := W0_9.out.grow hb
    have X_10 : Hid (PB (w5.heap.size + 1) w10 (w5.heap.size + 1) l0.length Xr) := X_9.out.grow hb
    have Y_10 : Hid (Blk w10 w6.heap.size Ycs 67) := Y_9.out.grow hb
    have G_10 : Hid (Blk w10 GM Gcs 67) := G_9.out.grow hb
    have G0_10 : Hid (Blk w10 w8.heap.size #[.slice (some ⟨GM, 0, none⟩) x.l.length Gc, .int .i64 x.s, .int .i64 x.e, .string x.n] 40) := G0_9.out.grow hb
    clear hb cW00 cW01 cW02 cW03 cG00 cG01 cG02 cG03
    have cW00 : w10.cell? ⟨w5.heap.size, 0, none⟩ = some (.slice (some ⟨WM, 0, none⟩) x.l.length Wc) := (W0_10.out).cell 0
    have cW01 : w10.cell? ⟨w5.heap.size, 1, none⟩ = some (.int .i64 x.s) := (W0_10.out).cell 1
    have cW02 : w10.cell? ⟨w5.heap.size, 2, none⟩ = some (.int .i64 x.e) := (W0_10.out).cell 2
    have cW03 : w10.cell? ⟨w5.heap.size, 3, none⟩ = some (.string x.n) := (W0_10.out).cell 3
    have cG00 : w10.cell? ⟨w8.heap.size, 0, none⟩ = some (.slice (some ⟨GM, 0, none⟩) x.l.length Gc) := (G0_10.out).cell 0
    have cG01 : w10.cell? ⟨w8.heap.size, 1, none⟩ = some (.int .i64 x.s) := (G0_10.out).cell 1
    have cG02 : w10.cell? ⟨w8.heap.size, 2, none⟩ = some (.int .i64 x.e) := (G0_10.out).cell 2
    have cG03 : w10.cell? ⟨w8.heap.size, 3, none⟩ = some (.string x.n) := (G0_10.out).cell 3
    go_wp2_with fail
    refine (eqPS_any _ _ _ _ l0 _ (rdT X_10.out XP.out.1) (rdT E_10.out EP.out.1) M0.out F0.out).mono ?_
    rintro e w11 ⟨rfl, hb⟩
    have B11 : Hid (Below w.heap.size w w11) := grow_on B10.out hb
    have Z11 : Hid (w10.heap.size ≤ w11.heap.size) := hb.size
    have W_11 : Hid (Blk w11 WM Wcs 67) := W_10.out.grow hb
    have W0_11 : Hid (Blk w11 w5.heap.size #[.slice (some ⟨WM, 0, none⟩) x.l.length Wc, .int .i64 x.s, .int .i64 x.e, .string x.n] 40) := W0_10.out.grow hb
    have X_11 : Hid (PB (w5.heap.size + 1) w11 (w5.heap.size + 1) l0.length Xr) := X_10.out.grow hb
    have Y_11 : Hid (Blk w11 w6.heap.size Ycs 67) := Y_10.out.grow hb
    have G_11 : Hid (Blk w11 GM Gcs 67) := G_10.out.grow hb
    have G0_11 : Hid (Blk w11 w8.heap.size #[.slice (some ⟨GM, 0, none⟩) x.l.length Gc, .int .i64 x.s, .int .i64 x.e, .string x.n] 40) := G0_10.out.grow hb
    have E_11 : Hid (PB w9.heap.size w11 w9.heap.size l0.length Er) := E_10.out.grow hb
    clear hb cW00 cW01 cW02 cW03 cG00 cG01 cG02 cG03
    have cW00 : w11.cell? ⟨w5.heap.size, 0, none⟩ = some (.slice (some ⟨WM, 0, none⟩) x.l.length Wc) := (W0_11.out).cell 0
    have cW01 : w11.cell? ⟨w5.heap.size, 1, none⟩ = some (.int .i64 x.s) := (W0_11.out).cell 1
    have cW02 : w11.cell? ⟨w5.heap.size, 2, none⟩ = some (.int .i64 x.e) := (W0_11.out).cell 2
    have cW03 : w11.cell? ⟨w5.heap.size, 3, none⟩ = some (.string x.n) := (W0_11.out).cell 3
    have cG00 : w11.cell? ⟨w8.heap.size, 0, none⟩ = some (.slice (some ⟨GM, 0, none⟩) x.l.length Gc) := (G0_11.out).cell 0
    have cG01 : w11.cell? ⟨w8.heap.size, 1, none⟩ = some (.int .i64 x.s) := (G0_11.out).cell 1
    have cG02 : w11.cell? ⟨w8.heap.size, 2, none⟩ = some (.int .i64 x.e) := (G0_11.out).cell 2
    have cG03 : w11.cell? ⟨w8.heap.size, 3, none⟩ = some (.string x.n) := (G0_11.out).cell 3
    go_wp2_with fail
    refine (LabT.to_any a1 cap1 l1 _ (R1.out.below B11.out) K1.out).mono ?_
    rintro e w12 ⟨rfl, ⟨Zcs, hk, hs, hh⟩, hb⟩
    have Z_12 : Hid (Blk w12 w11.heap.size Zcs 67) := (by first | exact hk | (have hk2 := hk; simp at hk2; exact hk2))
    have Zs : Hid (Zcs.size = l1.length * 2) := hs
    have Zh : Hid (LabT.Held Zcs l1 l1.length) := hh
    have U_Z : Hid (w11.heap.size ≤ w11.heap.size ∧ w11.heap.size < w12.heap.size) := ⟨by omega, Z_12.out.lt⟩
    clear hk hs hh
    have B12 : Hid (Below w.heap.size w w12) := grow_on B11.out hb
    have Z12 : Hid (w11.heap.size ≤ w12.heap.size) := hb.size
    have W_12 : Hid (Blk w12 WM Wcs 67) := W_11.out.grow hb
    have W0_12 : Hid (Blk w12 w5.heap.size #[.slice (some ⟨WM, 0, none⟩) x.l.length Wc, .int .i64 x.s, .int .i64 x.e, .string x.n] 40) := W0_11.out.grow hb
    have X_12 : Hid (PB (w5.heap.size + 1) w12 (w5.heap.size + 1) l0.length Xr) := X_11.out.grow hb
    have Y_12 : Hid (Blk w12 w6.heap.size Ycs 67) := Y_11.out.grow hb
    have G_12 : Hid (Blk w12 GM Gcs 67) := G_11.out.grow hb
    have G0_12 : Hid (Blk w12 w8.heap.size #[.slice (some ⟨GM, 0, none⟩) x.l.length Gc, .int .i64 x.s, .int .i64 x.e, .string x.n] 40) := G0_11.out.grow hb
    clear hb cW00 cW01 cW02 cW03 cG00 cG01 cG02 cG03
    have eL1 : decide (l1 = l1) = true := decide_eq_true rfl
    have cW00 : w12.cell? ⟨w5.heap.size, 0, none⟩ = some (.slice (some ⟨WM, 0, none⟩) x.l.length Wc) := (W0_12.out).cell 0
    have cW01 : w12.cell? ⟨w5.heap.size, 1, none⟩ = some (.int .i64 x.s) := (W0_12.out).cell 1
    have cW02 : w12.cell? ⟨w5.heap.size, 2, none⟩ = some (.int .i64 x.e) := (W0_12.out).cell 2
    have cW03 : w12.cell? ⟨w5.heap.size, 3, none⟩ = some (.string x.n) := (W0_12.out).cell 3
    have cG00 : w12.cell? ⟨w8.heap.size, 0, none⟩ = some (.slice (some ⟨GM, 0, none⟩) x.l.length Gc) := (G0_12.out).cell 0
    have cG01 : w12.cell? ⟨w8.heap.size, 1, none⟩ = some (.int .i64 x.s) := (G0_12.out).cell 1
    have cG02 : w12.cell? ⟨w8.heap.size, 2, none⟩ = some (.int .i64 x.e) := (G0_12.out).cell 2
    have cG03 : w12.cell? ⟨w8.heap.size, 3, none⟩ = some (.string x.n) := (G0_12.out).cell 3
    go_wp2_with fail
    refine (LabT.eq_any _ _ _ _ l1 l1 _ (held_reads Y_12.out Yh.out) (held_reads Z_12.out Zh.out) M1.out M1.out).mono ?_
    rintro e w13 ⟨rfl, hb⟩
    have B13 : Hid (Below w.heap.size w w13) := grow_on B12.out hb
    have Z13 : Hid (w12.heap.size ≤ w13.heap.size) := hb.size
    have W_13 : Hid (Blk w13 WM Wcs 67) := W_12.out.grow hb
    have W0_13 : Hid (Blk w13 w5.heap.size #[.slice (some ⟨WM, 0, none⟩) x.l.length Wc, .int .i64 x.s, .int .i64 x.e, .string x.n] 40) := W0_12.out.grow hb
    have X_13 : Hid (PB (w5.heap.size + 1) w13 (w5.heap.size + 1) l0.length Xr) := X_12.out.grow hb
    have Y_13 : Hid (Blk w13 w6.heap.size Ycs 67) := Y_12.out.grow hb
    have G_13 : Hid (Blk w13 GM Gcs 67) := G_12.out.grow hb
    have G0_13 : Hid (Blk w13 w8.heap.size #[.slice (some ⟨GM, 0, none⟩) x.l.length Gc, .int .i64 x.s, .int .i64 x.e, .string x.n] 40) := G0_12.out.grow hb
    have Z_13 : Hid (Blk w13 w11.heap.size Zcs 67) := Z_12.out.grow hb
    clear hb cW00 cW01 cW02 cW03 cG00 cG01 cG02 cG03
    have XL : Hid (Xr.length = l0.length) := lent_of XP.out.1
    have XS : Hid (1 + sumQ Xr ≤ 8000000) := marksT XP.out.1 (by have := K0.out; omega) (by have := K0.out; omega)
    have hXM : Hid (Calls Try.prog 14 #[.slice (some ⟨(w5.heap.size + 1), 0, none⟩) l0.length l0.length, .int .i64 1] w13 fun e w' => e = .returned (.int .i64 ((1 + sumQ Xr : Nat) : Int)) ∧ Only (blksS (w5.heap.size + 1) Xr) w13 w') := by
      have h := (StsM.markPS_any (w5.heap.size + 1) l0.length 1 _ l0.length Xr w13 X_13.out XP.out.2 (by rw [XL.out]; have := K0.out.1; omega) (fine8 X_13.out XP.out.1 (by have := K0.out; omega)) (by omega) (by have := XS.out; omega)).mono (fun e w' h => (⟨h.1, h.2.2⟩ : e = .returned (.int .i64 ((1 + sumQ Xr : Nat) : Int)) ∧ Only (blksS (w5.heap.size + 1) Xr) w13 w'))
      rw [XL.out] at h
      exact h
    have cW00 : w13.cell? ⟨w5.heap.size, 0, none⟩ = some (.slice (some ⟨WM, 0, none⟩) x.l.length Wc) := (W0_13.out).cell 0
    have cW01 : w13.cell? ⟨w5.heap.size, 1, none⟩ = some (.int .i64 x.s) := (W0_13.out).cell 1
    have cW02 : w13.cell? ⟨w5.heap.size, 2, none⟩ = some (.int .i64 x.e) := (W0_13.out).cell 2
    have cW03 : w13.cell? ⟨w5.heap.size, 3, none⟩ = some (.string x.n) := (W0_13.out).cell 3
    have cG00 : w13.cell? ⟨w8.heap.size, 0, none⟩ = some (.slice (some ⟨GM, 0, none⟩) x.l.length Gc) := (G0_13.out).cell 0
    have cG01 : w13.cell? ⟨w8.heap.size, 1, none⟩ = some (.int .i64 x.s) := (G0_13.out).cell 1
    have cG02 : w13.cell? ⟨w8.heap.size, 2, none⟩ = some (.int .i64 x.e) := (G0_13.out).cell 2
    have cG03 : w13.cell? ⟨w8.heap.size, 3, none⟩ = some (.string x.n) := (G0_13.out).cell 3
    go_wp2_with fail
    refine (hXM.out).mono ?_
    rintro e w14 ⟨rfl, ho⟩
    have B14 : Hid (Below w.heap.size w w14) := B13.out.trans (ho.low (fun k hk => by have hx := XR.out k hk; have hw := B5.out.size; omega) B13.out.size)
    have Z14 : Hid (w13.heap.size ≤ w14.heap.size) := ho.size
    have W_14 : Hid (Blk w14 WM Wcs 67) := ho.blk W_13.out (fun hs => by have hx := XR.out _ hs; have h0 := Z1.out; have h1 := Z2.out; have h2 := Z3.out; have h3 := Z4.out; have h4 := Z5.out; have h5 := Z6.out; have h6 := Z7.out; have h7 := Z8.out; have h8 := Z9.out; have h9 := Z10.out; have h10 := Z11.out; have h11 := Z12.out; have h12 := Z13.out; have h13 := Z14.out; have h14 := U_S.out; have h15 := U_T.out; have h16 := U_W.out; have h17 := U_W0.out; have h18 := U_X.out; have h19 := U_Y.out; have h20 := U_G.out; have h21 := U_G0.out; have h22 := U_E.out; have h23 := U_Z.out; omega)
    have W0_14 : Hid (Blk w14 w5.heap.size #[.slice (some ⟨WM, 0, none⟩) x.l.length Wc, .int .i64 x.s, .int .i64 x.e, .string x.n] 40) := ho.blk W0_13.out (fun hs => by have hx := XR.out _ hs; have h0 := Z1.out; have h1 := Z2.out; have h2 := Z3.out; have h3 := Z4.out; have h4 := Z5.out; have h5 := Z6.out; have h6 := Z7.out; have h7 := Z8.out; have h8 := Z9.out; have h9 := Z10.out; have h10 := Z11.out; have h11 := Z12.out; have h12 := Z13.out; have h13 := Z14.out; have h14 := U_S.out; have h15 := U_T.out; have h16 := U_W.out; have h17 := U_W0.out; have h18 := U_X.out; have h19 := U_Y.out; have h20 := U_G.out; have h21 := U_G0.out; have h22 := U_E.out; have h23 := U_Z.out; omega)
    have Y_14 : Hid (Blk w14 w6.heap.size Ycs 67) := ho.blk Y_13.out (fun hs => by have hx := XR.out _ hs; have h0 := Z1.out; have h1 := Z2.out; have h2 := Z3.out; have h3 := Z4.out; have h4 := Z5.out; have h5 := Z6.out; have h6 := Z7.out; have h7 := Z8.out; have h8 := Z9.out; have h9 := Z10.out; have h10 := Z11.out; have h11 := Z12.out; have h12 := Z13.out; have h13 := Z14.out; have h14 := U_S.out; have h15 := U_T.out; have h16 := U_W.out; have h17 := U_W0.out; have h18 := U_X.out; have h19 := U_Y.out; have h20 := U_G.out; have h21 := U_G0.out; have h22 := U_E.out; have h23 := U_Z.out; omega)
    have G_14 : Hid (Blk w14 GM Gcs 67) := ho.blk G_13.out (fun hs => by have hx := XR.out _ hs; have h0 := Z1.out; have h1 := Z2.out; have h2 := Z3.out; have h3 := Z4.out; have h4 := Z5.out; have h5 := Z6.out; have h6 := Z7.out; have h7 := Z8.out; have h8 := Z9.out; have h9 := Z10.out; have h10 := Z11.out; have h11 := Z12.out; have h12 := Z13.out; have h13 := Z14.out; have h14 := U_S.out; have h15 := U_T.out; have h16 := U_W.out; have h17 := U_W0.out; have h18 := U_X.out; have h19 := U_Y.out; have h20 := U_G.out; have h21 := U_G0.out; have h22 := U_E.out; have h23 := U_Z.out; omega)
    have G0_14 : Hid (Blk w14 w8.heap.size #[.slice (some ⟨GM, 0, none⟩) x.l.length Gc, .int .i64 x.s, .int .i64 x.e, .string x.n] 40) := ho.blk G0_13.out (fun hs => by have hx := XR.out _ hs; have h0 := Z1.out; have h1 := Z2.out; have h2 := Z3.out; have h3 := Z4.out; have h4 := Z5.out; have h5 := Z6.out; have h6 := Z7.out; have h7 := Z8.out; have h8 := Z9.out; have h9 := Z10.out; have h10 := Z11.out; have h11 := Z12.out; have h12 := Z13.out; have h13 := Z14.out; have h14 := U_S.out; have h15 := U_T.out; have h16 := U_W.out; have h17 := U_W0.out; have h18 := U_X.out; have h19 := U_Y.out; have h20 := U_G.out; have h21 := U_G0.out; have h22 := U_E.out; have h23 := U_Z.out; omega)
    clear ho cW00 cW01 cW02 cW03 cG00 cG01 cG02 cG03
    have MX : Hid (1 ≤ 1 + sumQ Xr ∧ 1 + sumQ Xr ≤ 10000000) := by have := XS.out; exact ⟨by omega, by omega⟩
    generalize 1 + sumQ Xr = m1 at MX ⊢
    have cW00 : w14.cell? ⟨w5.heap.size, 0, none⟩ = some (.slice (some ⟨WM, 0, none⟩) x.l.length Wc) := (W0_14.out).cell 0
    have cW01 : w14.cell? ⟨w5.heap.size, 1, none⟩ = some (.int .i64 x.s) := (W0_14.out).cell 1
    have cW02 : w14.cell? ⟨w5.heap.size, 2, none⟩ = some (.int .i64 x.e) := (W0_14.out).cell 2
    have cW03 : w14.cell? ⟨w5.heap.size, 3, none⟩ = some (.string x.n) := (W0_14.out).cell 3
    have cG00 : w14.cell? ⟨w8.heap.size, 0, none⟩ = some (.slice (some ⟨GM, 0, none⟩) x.l.length Gc) := (G0_14.out).cell 0
    have cG01 : w14.cell? ⟨w8.heap.size, 1, none⟩ = some (.int .i64 x.s) := (G0_14.out).cell 1
    have cG02 : w14.cell? ⟨w8.heap.size, 2, none⟩ = some (.int .i64 x.e) := (G0_14.out).cell 2
    have cG03 : w14.cell? ⟨w8.heap.size, 3, none⟩ = some (.string x.n) := (G0_14.out).cell 3
    go_wp2_with fail
    refine ((Mark.mark_any w6.heap.size l1.length l1.length m1 Ycs _ Y_14.out (by rw [Ys.out]; exact Nat.le_refl _) K1.out MX.out.1 MX.out.2).mono (fun e w' h => (⟨h.1, Only.apart (S := fun k => k = w6.heap.size) h.2.2 rfl⟩ : e = .returned (.int .i64 ((m1 + 2 * l1.length : Nat) : Int)) ∧ Only (fun k => k = w6.heap.size) w14 w'))).mono ?_
    rintro e w15 ⟨rfl, ho⟩
    have B15 : Hid (Below w.heap.size w w15) := B14.out.trans (ho.low (fun k hk => by have hk : k = w6.heap.size := hk; have hw := B6.out.size; have h0 := Z1.out; have h1 := Z2.out; have h2 := Z3.out; have h3 := Z4.out; have h4 := Z5.out; have h5 := Z6.out; have h6 := Z7.out; have h7 := Z8.out; have h8 := Z9.out; have h9 := Z10.out; have h10 := Z11.out; have h11 := Z12.out; have h12 := Z13.out; have h13 := Z14.out; have h14 := U_S.out; have h15 := U_T.out; have h16 := U_W.out; have h17 := U_W0.out; have h18 := U_X.out; have h19 := U_Y.out; have h20 := U_G.out; have h21 := U_G0.out; have h22 := U_E.out; have h23 := U_Z.out; omega) B14.out.size)
    have Z15 : Hid (w14.heap.size ≤ w15.heap.size) := ho.size
    have W_15 : Hid (Blk w15 WM Wcs 67) := ho.blk W_14.out (fun hs => by have hs : _ = w6.heap.size := hs; have h0 := Z1.out; have h1 := Z2.out; have h2 := Z3.out; have h3 := Z4.out; have h4 := Z5.out; have h5 := Z6.out; have h6 := Z7.out; have h7 := Z8.out; have h8 := Z9.out; have h9 := Z10.out; have h10 := Z11.out; have h11 := Z12.out; have h12 := Z13.out; have h13 := Z14.out; have h14 := Z15.out; have h15 := U_S.out; have h16 := U_T.out; have h17 := U_W.out; have h18 := U_W0.out; have h19 := U_X.out; have h20 := U_Y.out; have h21 := U_G.out; have h22 := U_G0.out; have h23 := U_E.out; have h24 := U_Z.out; omega)
    have W0_15 : Hid (Blk w15 w5.heap.size #[.slice (some ⟨WM, 0, none⟩) x.l.length Wc, .int .i64 x.s, .int .i64 x.e, .string x.n] 40) := ho.blk W0_14.out (fun hs => by have hs : _ = w6.heap.size := hs; have h0 := Z1.out; have h1 := Z2.out; have h2 := Z3.out; have h3 := Z4.out; have h4 := Z5.out; have h5 := Z6.out; have h6 := Z7.out; have h7 := Z8.out; have h8 := Z9.out; have h9 := Z10.out; have h10 := Z11.out; have h11 := Z12.out; have h12 := Z13.out; have h13 := Z14.out; have h14 := Z15.out; have h15 := U_S.out; have h16 := U_T.out; have h17 := U_W.out; have h18 := U_W0.out; have h19 := U_X.out; have h20 := U_Y.out; have h21 := U_G.out; have h22 := U_G0.out; have h23 := U_E.out; have h24 := U_Z.out; omega)
    have G_15 : Hid (Blk w15 GM Gcs 67) := ho.blk G_14.out (fun hs => by have hs : _ = w6.heap.size := hs; have h0 := Z1.out; have h1 := Z2.out; have h2 := Z3.out; have h3 := Z4.out; have h4 := Z5.out; have h5 := Z6.out; have h6 := Z7.out; have h7 := Z8.out; have h8 := Z9.out; have h9 := Z10.out; have h10 := Z11.out; have h11 := Z12.out; have h12 := Z13.out; have h13 := Z14.out; have h14 := Z15.out; have h15 := U_S.out; have h16 := U_T.out; have h17 := U_W.out; have h18 := U_W0.out; have h19 := U_X.out; have h20 := U_Y.out; have h21 := U_G.out; have h22 := U_G0.out; have h23 := U_E.out; have h24 := U_Z.out; omega)
    have G0_15 : Hid (Blk w15 w8.heap.size #[.slice (some ⟨GM, 0, none⟩) x.l.length Gc, .int .i64 x.s, .int .i64 x.e, .string x.n] 40) := ho.blk G0_14.out (fun hs => by have hs : _ = w6.heap.size := hs; have h0 := Z1.out; have h1 := Z2.out; have h2 := Z3.out; have h3 := Z4.out; have h4 := Z5.out; have h5 := Z6.out; have h6 := Z7.out; have h7 := Z8.out; have h8 := Z9.out; have h9 := Z10.out; have h10 := Z11.out; have h11 := Z12.out; have h12 := Z13.out; have h13 := Z14.out; have h14 := Z15.out; have h15 := U_S.out; have h16 := U_T.out; have h17 := U_W.out; have h18 := U_W0.out; have h19 := U_X.out; have h20 := U_Y.out; have h21 := U_G.out; have h22 := U_G0.out; have h23 := U_E.out; have h24 := U_Z.out; omega)
    clear ho cW00 cW01 cW02 cW03 cG00 cG01 cG02 cG03
    have hq : ¬ ((m1 + 2 * l1.length : Nat) : Int) < 0 := by omega
    generalize m1 + 2 * l1.length = m2 at hq ⊢
    have eA : Alm.sameB x.l x.s x.e x.n x.l x.s x.e x.n = true := Alm.same_self _ _ _ _
    have cW00 : w15.cell? ⟨w5.heap.size, 0, none⟩ = some (.slice (some ⟨WM, 0, none⟩) x.l.length Wc) := (W0_15.out).cell 0
    have cW01 : w15.cell? ⟨w5.heap.size, 1, none⟩ = some (.int .i64 x.s) := (W0_15.out).cell 1
    have cW02 : w15.cell? ⟨w5.heap.size, 2, none⟩ = some (.int .i64 x.e) := (W0_15.out).cell 2
    have cW03 : w15.cell? ⟨w5.heap.size, 3, none⟩ = some (.string x.n) := (W0_15.out).cell 3
    have cG00 : w15.cell? ⟨w8.heap.size, 0, none⟩ = some (.slice (some ⟨GM, 0, none⟩) x.l.length Gc) := (G0_15.out).cell 0
    have cG01 : w15.cell? ⟨w8.heap.size, 1, none⟩ = some (.int .i64 x.s) := (G0_15.out).cell 1
    have cG02 : w15.cell? ⟨w8.heap.size, 2, none⟩ = some (.int .i64 x.e) := (G0_15.out).cell 2
    have cG03 : w15.cell? ⟨w8.heap.size, 3, none⟩ = some (.string x.n) := (G0_15.out).cell 3
    go_wp2_with fail
    refine (Alm.eq_any _ _ _ _ x.l x.l x.s x.e x.s x.e x.n x.n _ ((held_reads G_15.out Gh.out)) ((held_reads W_15.out Wh.out)) FX.out.1.len FX.out.1.len).mono ?_
    rintro e w16 ⟨rfl, hb⟩
    have B16 : Hid (Below w.heap.size w w16) := grow_on B15.out hb
    have Z16 : Hid (w15.heap.size ≤ w16.heap.size) := hb.size
    have W_16 : Hid (Blk w16 WM Wcs 67) := W_15.out.grow hb
    have W0_16 : Hid (Blk w16 w5.heap.size #[.slice (some ⟨WM, 0, none⟩) x.l.length Wc, .int .i64 x.s, .int .i64 x.e, .string x.n] 40) := W0_15.out.grow hb
    have G_16 : Hid (Blk w16 GM Gcs 67) := G_15.out.grow hb
    have G0_16 : Hid (Blk w16 w8.heap.size #[.slice (some ⟨GM, 0, none⟩) x.l.length Gc, .int .i64 x.s, .int .i64 x.e, .string x.n] 40) := G0_15.out.grow hb
    clear hb cW00 cW01 cW02 cW03 cG00 cG01 cG02 cG03
    clear hq
    have cW00 : w16.cell? ⟨w5.heap.size, 0, none⟩ = some (.slice (some ⟨WM, 0, none⟩) x.l.length Wc) := (W0_16.out).cell 0
    have cW01 : w16.cell? ⟨w5.heap.size, 1, none⟩ = some (.int .i64 x.s) := (W0_16.out).cell 1
    have cW02 : w16.cell? ⟨w5.heap.size, 2, none⟩ = some (.int .i64 x.e) := (W0_16.out).cell 2
    have cW03 : w16.cell? ⟨w5.heap.size, 3, none⟩ = some (.string x.n) := (W0_16.out).cell 3
    have cG00 : w16.cell? ⟨w8.heap.size, 0, none⟩ = some (.slice (some ⟨GM, 0, none⟩) x.l.length Gc) := (G0_16.out).cell 0
    have cG01 : w16.cell? ⟨w8.heap.size, 1, none⟩ = some (.int .i64 x.s) := (G0_16.out).cell 1
    have cG02 : w16.cell? ⟨w8.heap.size, 2, none⟩ = some (.int .i64 x.e) := (G0_16.out).cell 2
    have cG03 : w16.cell? ⟨w8.heap.size, 3, none⟩ = some (.string x.n) := (G0_16.out).cell 3
    go_wp2_with fail
    refine ((AlmK.markA_any GM x.l.length Gc 1 x.s x.e x.n Gcs _ G_16.out Gs.out FX.out.2 (by omega) (by omega)).mono (fun e w' h => (⟨h.1, h.2.1, Only.apart (S := fun k => k = GM) h.2.2 rfl⟩ : e = .returned (.int .i64 ((1 + 2 * x.l.length : Nat) : Int)) ∧ (∃ cs' : Array Value, Blk w' GM cs' 67 ∧ cs'.size = Gcs.size ∧ Marked cs' 1 x.l.length) ∧ Only (fun k => k = GM) w16 w'))).mono ?_
    rintro e w17 ⟨rfl, ⟨Hcs, hm1, -, hm2⟩, ho⟩
    have B17 : Hid (Below w.heap.size w w17) := B16.out.trans (ho.low (fun k hk => by have hk : k = GM := hk; have hw := B6.out.size; have h0 := Z1.out; have h1 := Z2.out; have h2 := Z3.out; have h3 := Z4.out; have h4 := Z5.out; have h5 := Z6.out; have h6 := Z7.out; have h7 := Z8.out; have h8 := Z9.out; have h9 := Z10.out; have h10 := Z11.out; have h11 := Z12.out; have h12 := Z13.out; have h13 := Z14.out; have h14 := Z15.out; have h15 := Z16.out; have h16 := U_S.out; have h17 := U_T.out; have h18 := U_W.out; have h19 := U_W0.out; have h20 := U_X.out; have h21 := U_Y.out; have h22 := U_G.out; have h23 := U_G0.out; have h24 := U_E.out; have h25 := U_Z.out; omega) B16.out.size)
    have Z17 : Hid (w16.heap.size ≤ w17.heap.size) := ho.size
    have W_17 : Hid (Blk w17 WM Wcs 67) := ho.blk W_16.out (fun hs => by have hs : _ = GM := hs; have h0 := Z1.out; have h1 := Z2.out; have h2 := Z3.out; have h3 := Z4.out; have h4 := Z5.out; have h5 := Z6.out; have h6 := Z7.out; have h7 := Z8.out; have h8 := Z9.out; have h9 := Z10.out; have h10 := Z11.out; have h11 := Z12.out; have h12 := Z13.out; have h13 := Z14.out; have h14 := Z15.out; have h15 := Z16.out; have h16 := Z17.out; have h17 := U_S.out; have h18 := U_T.out; have h19 := U_W.out; have h20 := U_W0.out; have h21 := U_X.out; have h22 := U_Y.out; have h23 := U_G.out; have h24 := U_G0.out; have h25 := U_E.out; have h26 := U_Z.out; omega)
    have W0_17 : Hid (Blk w17 w5.heap.size #[.slice (some ⟨WM, 0, none⟩) x.l.length Wc, .int .i64 x.s, .int .i64 x.e, .string x.n] 40) := ho.blk W0_16.out (fun hs => by have hs : _ = GM := hs; have h0 := Z1.out; have h1 := Z2.out; have h2 := Z3.out; have h3 := Z4.out; have h4 := Z5.out; have h5 := Z6.out; have h6 := Z7.out; have h7 := Z8.out; have h8 := Z9.out; have h9 := Z10.out; have h10 := Z11.out; have h11 := Z12.out; have h12 := Z13.out; have h13 := Z14.out; have h14 := Z15.out; have h15 := Z16.out; have h16 := Z17.out; have h17 := U_S.out; have h18 := U_T.out; have h19 := U_W.out; have h20 := U_W0.out; have h21 := U_X.out; have h22 := U_Y.out; have h23 := U_G.out; have h24 := U_G0.out; have h25 := U_E.out; have h26 := U_Z.out; omega)
    have G0_17 : Hid (Blk w17 w8.heap.size #[.slice (some ⟨GM, 0, none⟩) x.l.length Gc, .int .i64 x.s, .int .i64 x.e, .string x.n] 40) := ho.blk G0_16.out (fun hs => by have hs : _ = GM := hs; have h0 := Z1.out; have h1 := Z2.out; have h2 := Z3.out; have h3 := Z4.out; have h4 := Z5.out; have h5 := Z6.out; have h6 := Z7.out; have h7 := Z8.out; have h8 := Z9.out; have h9 := Z10.out; have h10 := Z11.out; have h11 := Z12.out; have h12 := Z13.out; have h13 := Z14.out; have h14 := Z15.out; have h15 := Z16.out; have h16 := Z17.out; have h17 := U_S.out; have h18 := U_T.out; have h19 := U_W.out; have h20 := U_W0.out; have h21 := U_X.out; have h22 := U_Y.out; have h23 := U_G.out; have h24 := U_G0.out; have h25 := U_E.out; have h26 := U_Z.out; omega)
    have H_17 : Hid (Blk w17 GM Hcs 67) := hm1
    have Hm : Hid (Marked Hcs 1 x.l.length) := hm2
    clear hm1 hm2
    clear ho cW00 cW01 cW02 cW03 cG00 cG01 cG02 cG03
    have hq : ¬ ((1 + 2 * x.l.length : Nat) : Int) < 0 := by omega
    have cW00 : w17.cell? ⟨w5.heap.size, 0, none⟩ = some (.slice (some ⟨WM, 0, none⟩) x.l.length Wc) := (W0_17.out).cell 0
    have cW01 : w17.cell? ⟨w5.heap.size, 1, none⟩ = some (.int .i64 x.s) := (W0_17.out).cell 1
    have cW02 : w17.cell? ⟨w5.heap.size, 2, none⟩ = some (.int .i64 x.e) := (W0_17.out).cell 2
    have cW03 : w17.cell? ⟨w5.heap.size, 3, none⟩ = some (.string x.n) := (W0_17.out).cell 3
    have cG00 : w17.cell? ⟨w8.heap.size, 0, none⟩ = some (.slice (some ⟨GM, 0, none⟩) x.l.length Gc) := (G0_17.out).cell 0
    have cG01 : w17.cell? ⟨w8.heap.size, 1, none⟩ = some (.int .i64 x.s) := (G0_17.out).cell 1
    have cG02 : w17.cell? ⟨w8.heap.size, 2, none⟩ = some (.int .i64 x.e) := (G0_17.out).cell 2
    have cG03 : w17.cell? ⟨w8.heap.size, 3, none⟩ = some (.string x.n) := (G0_17.out).cell 3
    go_wp2_with fail
    refine (AlmK.heldA_any GM x.l.length Gc 1 x.s x.e x.n Hcs _ H_17.out Hm.out FX.out.2 (by omega) (by omega)).mono ?_
    rintro e w18 ⟨rfl, hb⟩
    have B18 : Hid (Below w.heap.size w w18) := grow_on B17.out hb
    have Z18 : Hid (w17.heap.size ≤ w18.heap.size) := hb.size
    have W_18 : Hid (Blk w18 WM Wcs 67) := W_17.out.grow hb
    have W0_18 : Hid (Blk w18 w5.heap.size #[.slice (some ⟨WM, 0, none⟩) x.l.length Wc, .int .i64 x.s, .int .i64 x.e, .string x.n] 40) := W0_17.out.grow hb
    have G0_18 : Hid (Blk w18 w8.heap.size #[.slice (some ⟨GM, 0, none⟩) x.l.length Gc, .int .i64 x.s, .int .i64 x.e, .string x.n] 40) := G0_17.out.grow hb
    have H_18 : Hid (Blk w18 GM Hcs 67) := H_17.out.grow hb
    clear hb cW00 cW01 cW02 cW03 cG00 cG01 cG02 cG03
    have cW00 : w18.cell? ⟨w5.heap.size, 0, none⟩ = some (.slice (some ⟨WM, 0, none⟩) x.l.length Wc) := (W0_18.out).cell 0
    have cW01 : w18.cell? ⟨w5.heap.size, 1, none⟩ = some (.int .i64 x.s) := (W0_18.out).cell 1
    have cW02 : w18.cell? ⟨w5.heap.size, 2, none⟩ = some (.int .i64 x.e) := (W0_18.out).cell 2
    have cW03 : w18.cell? ⟨w5.heap.size, 3, none⟩ = some (.string x.n) := (W0_18.out).cell 3
    have cG00 : w18.cell? ⟨w8.heap.size, 0, none⟩ = some (.slice (some ⟨GM, 0, none⟩) x.l.length Gc) := (G0_18.out).cell 0
    have cG01 : w18.cell? ⟨w8.heap.size, 1, none⟩ = some (.int .i64 x.s) := (G0_18.out).cell 1
    have cG02 : w18.cell? ⟨w8.heap.size, 2, none⟩ = some (.int .i64 x.e) := (G0_18.out).cell 2
    have cG03 : w18.cell? ⟨w8.heap.size, 3, none⟩ = some (.string x.n) := (G0_18.out).cell 3
    go_wp2_with fail
    refine (toPS_any a0 cap0 l0 _ (R0.out.below stays_rd B18.out) K0.out.1 K0.out.2.1).mono ?_
    rintro e w19 ⟨rfl, ⟨Cr, hA, hP, hO⟩, hb⟩
    have C_19 : Hid (PB w18.heap.size w19 w18.heap.size l0.length Cr) := (by first | exact hA | (have hA2 := hA; simp at hA2; exact hA2))
    have CP : Hid (pts Cr = l0 ∧ Own8 Cr) := ⟨hP, hO⟩
    have U_C : Hid (w18.heap.size ≤ w18.heap.size ∧ w18.heap.size < w19.heap.size) := ⟨by omega, C_19.out.lt⟩
    clear hA hP hO
    have B19 : Hid (Below w.heap.size w w19) := grow_on B18.out hb
    have Z19 : Hid (w18.heap.size ≤ w19.heap.size) := hb.size
    have W_19 : Hid (Blk w19 WM Wcs 67) := W_18.out.grow hb
    have W0_19 : Hid (Blk w19 w5.heap.size #[.slice (some ⟨WM, 0, none⟩) x.l.length Wc, .int .i64 x.s, .int .i64 x.e, .string x.n] 40) := W0_18.out.grow hb
    have G0_19 : Hid (Blk w19 w8.heap.size #[.slice (some ⟨GM, 0, none⟩) x.l.length Gc, .int .i64 x.s, .int .i64 x.e, .string x.n] 40) := G0_18.out.grow hb
    have H_19 : Hid (Blk w19 GM Hcs 67) := H_18.out.grow hb
    clear hb cW00 cW01 cW02 cW03 cG00 cG01 cG02 cG03
    have cW00 : w19.cell? ⟨w5.heap.size, 0, none⟩ = some (.slice (some ⟨WM, 0, none⟩) x.l.length Wc) := (W0_19.out).cell 0
    have cW01 : w19.cell? ⟨w5.heap.size, 1, none⟩ = some (.int .i64 x.s) := (W0_19.out).cell 1
    have cW02 : w19.cell? ⟨w5.heap.size, 2, none⟩ = some (.int .i64 x.e) := (W0_19.out).cell 2
    have cW03 : w19.cell? ⟨w5.heap.size, 3, none⟩ = some (.string x.n) := (W0_19.out).cell 3
    have cG00 : w19.cell? ⟨w8.heap.size, 0, none⟩ = some (.slice (some ⟨GM, 0, none⟩) x.l.length Gc) := (G0_19.out).cell 0
    have cG01 : w19.cell? ⟨w8.heap.size, 1, none⟩ = some (.int .i64 x.s) := (G0_19.out).cell 1
    have cG02 : w19.cell? ⟨w8.heap.size, 2, none⟩ = some (.int .i64 x.e) := (G0_19.out).cell 2
    have cG03 : w19.cell? ⟨w8.heap.size, 3, none⟩ = some (.string x.n) := (G0_19.out).cell 3
    go_wp2_with fail
    refine (LabT.to_any a1 cap1 l1 _ (R1.out.below B19.out) K1.out).mono ?_
    rintro e w20 ⟨rfl, ⟨Dcs, hk, hs, hh⟩, hb⟩
    have D_20 : Hid (Blk w20 w19.heap.size Dcs 67) := (by first | exact hk | (have hk2 := hk; simp at hk2; exact hk2))
    have Ds : Hid (Dcs.size = l1.length * 2) := hs
    have Dh : Hid (LabT.Held Dcs l1 l1.length) := hh
    have U_D : Hid (w19.heap.size ≤ w19.heap.size ∧ w19.heap.size < w20.heap.size) := ⟨by omega, D_20.out.lt⟩
    clear hk hs hh
    have B20 : Hid (Below w.heap.size w w20) := grow_on B19.out hb
    have Z20 : Hid (w19.heap.size ≤ w20.heap.size) := hb.size
    have W_20 : Hid (Blk w20 WM Wcs 67) := W_19.out.grow hb
    have W0_20 : Hid (Blk w20 w5.heap.size #[.slice (some ⟨WM, 0, none⟩) x.l.length Wc, .int .i64 x.s, .int .i64 x.e, .string x.n] 40) := W0_19.out.grow hb
    have G0_20 : Hid (Blk w20 w8.heap.size #[.slice (some ⟨GM, 0, none⟩) x.l.length Gc, .int .i64 x.s, .int .i64 x.e, .string x.n] 40) := G0_19.out.grow hb
    have H_20 : Hid (Blk w20 GM Hcs 67) := H_19.out.grow hb
    have C_20 : Hid (PB w18.heap.size w20 w18.heap.size l0.length Cr) := C_19.out.grow hb
    clear hb cW00 cW01 cW02 cW03 cG00 cG01 cG02 cG03
    have cW00 : w20.cell? ⟨w5.heap.size, 0, none⟩ = some (.slice (some ⟨WM, 0, none⟩) x.l.length Wc) := (W0_20.out).cell 0
    have cW01 : w20.cell? ⟨w5.heap.size, 1, none⟩ = some (.int .i64 x.s) := (W0_20.out).cell 1
    have cW02 : w20.cell? ⟨w5.heap.size, 2, none⟩ = some (.int .i64 x.e) := (W0_20.out).cell 2
    have cW03 : w20.cell? ⟨w5.heap.size, 3, none⟩ = some (.string x.n) := (W0_20.out).cell 3
    have cG00 : w20.cell? ⟨w8.heap.size, 0, none⟩ = some (.slice (some ⟨GM, 0, none⟩) x.l.length Gc) := (G0_20.out).cell 0
    have cG01 : w20.cell? ⟨w8.heap.size, 1, none⟩ = some (.int .i64 x.s) := (G0_20.out).cell 1
    have cG02 : w20.cell? ⟨w8.heap.size, 2, none⟩ = some (.int .i64 x.e) := (G0_20.out).cell 2
    have cG03 : w20.cell? ⟨w8.heap.size, 3, none⟩ = some (.string x.n) := (G0_20.out).cell 3
    go_wp2_with fail
    refine (StsF.implFindA_yes _ _ _ _ l0 l1 x _ (rdT C_20.out CP.out.1) (held_reads D_20.out Dh.out) K0.out.1 K0.out.2.1 M1.out F1.out FB.out).mono ?_
    rintro e w21 ⟨⟨EM, Ec, rfl, hO⟩, hb⟩
    obtain ⟨hO1, Ecs, hO2, hO3, hO4⟩ := hO
    have E_21 : Hid (Blk w21 EM Ecs 67) := hO2
    have Es : Hid (x.l.length * 2 ≤ Ecs.size) := hO3
    have Eh : Hid (LabT.Held Ecs x.l x.l.length) := hO4
    have U_E : Hid (w20.heap.size ≤ EM ∧ EM < w21.heap.size) := ⟨hO1, hO2.lt⟩
    clear hO1 hO2 hO3 hO4
    have B21 : Hid (Below w.heap.size w w21) := grow_on B20.out hb
    have Z21 : Hid (w20.heap.size ≤ w21.heap.size) := hb.size
    have W_21 : Hid (Blk w21 WM Wcs 67) := W_20.out.grow hb
    have W0_21 : Hid (Blk w21 w5.heap.size #[.slice (some ⟨WM, 0, none⟩) x.l.length Wc, .int .i64 x.s, .int .i64 x.e, .string x.n] 40) := W0_20.out.grow hb
    have G0_21 : Hid (Blk w21 w8.heap.size #[.slice (some ⟨GM, 0, none⟩) x.l.length Gc, .int .i64 x.s, .int .i64 x.e, .string x.n] 40) := G0_20.out.grow hb
    have H_21 : Hid (Blk w21 GM Hcs 67) := H_20.out.grow hb
    have C_21 : Hid (PB w18.heap.size w21 w18.heap.size l0.length Cr) := C_20.out.grow hb
    have D_21 : Hid (Blk w21 w19.heap.size Dcs 67) := D_20.out.grow hb
    clear hb cW00 cW01 cW02 cW03 cG00 cG01 cG02 cG03
    have eA : Alm.sameB x.l x.s x.e x.n x.l x.s x.e x.n = true := Alm.same_self _ _ _ _
    have cW00 : (w21.alloc (.cells #[.slice (some ⟨EM, 0, none⟩) x.l.length Ec, .int .i64 x.s, .int .i64 x.e, .string x.n] 40)).cell? ⟨w5.heap.size, 0, none⟩ = some (.slice (some ⟨WM, 0, none⟩) x.l.length Wc) := (W0_21.out.alloc _).cell 0
    have cW01 : (w21.alloc (.cells #[.slice (some ⟨EM, 0, none⟩) x.l.length Ec, .int .i64 x.s, .int .i64 x.e, .string x.n] 40)).cell? ⟨w5.heap.size, 1, none⟩ = some (.int .i64 x.s) := (W0_21.out.alloc _).cell 1
    have cW02 : (w21.alloc (.cells #[.slice (some ⟨EM, 0, none⟩) x.l.length Ec, .int .i64 x.s, .int .i64 x.e, .string x.n] 40)).cell? ⟨w5.heap.size, 2, none⟩ = some (.int .i64 x.e) := (W0_21.out.alloc _).cell 2
    have cW03 : (w21.alloc (.cells #[.slice (some ⟨EM, 0, none⟩) x.l.length Ec, .int .i64 x.s, .int .i64 x.e, .string x.n] 40)).cell? ⟨w5.heap.size, 3, none⟩ = some (.string x.n) := (W0_21.out.alloc _).cell 3
    have cG00 : (w21.alloc (.cells #[.slice (some ⟨EM, 0, none⟩) x.l.length Ec, .int .i64 x.s, .int .i64 x.e, .string x.n] 40)).cell? ⟨w8.heap.size, 0, none⟩ = some (.slice (some ⟨GM, 0, none⟩) x.l.length Gc) := (G0_21.out.alloc _).cell 0
    have cG01 : (w21.alloc (.cells #[.slice (some ⟨EM, 0, none⟩) x.l.length Ec, .int .i64 x.s, .int .i64 x.e, .string x.n] 40)).cell? ⟨w8.heap.size, 1, none⟩ = some (.int .i64 x.s) := (G0_21.out.alloc _).cell 1
    have cG02 : (w21.alloc (.cells #[.slice (some ⟨EM, 0, none⟩) x.l.length Ec, .int .i64 x.s, .int .i64 x.e, .string x.n] 40)).cell? ⟨w8.heap.size, 2, none⟩ = some (.int .i64 x.e) := (G0_21.out.alloc _).cell 2
    have cG03 : (w21.alloc (.cells #[.slice (some ⟨EM, 0, none⟩) x.l.length Ec, .int .i64 x.s, .int .i64 x.e, .string x.n] 40)).cell? ⟨w8.heap.size, 3, none⟩ = some (.string x.n) := (G0_21.out.alloc _).cell 3
    go_wp2_with fail
    refine (Alm.eq_any _ _ _ _ x.l x.l x.s x.e x.s x.e x.n x.n _ ((held_reads E_21.out Eh.out).below (Go.Joins.below_alloc1 w21 _)) ((held_reads W_21.out Wh.out).below (Go.Joins.below_alloc1 w21 _)) FX.out.1.len FX.out.1.len).mono ?_
    rintro e w22 ⟨rfl, hb⟩
    have E0_22 : Hid (Blk w22 w21.heap.size #[.slice (some ⟨EM, 0, none⟩) x.l.length Ec, .int .i64 x.s, .int .i64 x.e, .string x.n] 40) := (Blk.new _ _ _).grow hb
    have U_E0 : Hid (w21.heap.size ≤ w21.heap.size ∧ w21.heap.size < w22.heap.size) := ⟨Nat.le_refl _, E0_22.out.lt⟩
    replace hb := grow_on (Go.Joins.below_alloc1 w21 _) hb
    have B22 : Hid (Below w.heap.size w w22) := grow_on B21.out hb
    have Z22 : Hid (w21.heap.size ≤ w22.heap.size) := hb.size
    have W_22 : Hid (Blk w22 WM Wcs 67) := W_21.out.grow hb
    have W0_22 : Hid (Blk w22 w5.heap.size #[.slice (some ⟨WM, 0, none⟩) x.l.length Wc, .int .i64 x.s, .int .i64 x.e, .string x.n] 40) := W0_21.out.grow hb
    have G0_22 : Hid (Blk w22 w8.heap.size #[.slice (some ⟨GM, 0, none⟩) x.l.length Gc, .int .i64 x.s, .int .i64 x.e, .string x.n] 40) := G0_21.out.grow hb
    have H_22 : Hid (Blk w22 GM Hcs 67) := H_21.out.grow hb
    have E_22 : Hid (Blk w22 EM Ecs 67) := E_21.out.grow hb
    clear hb cW00 cW01 cW02 cW03 cG00 cG01 cG02 cG03
    have hq : ¬ ((1 + 2 * x.l.length : Nat) : Int) < 0 := by omega
    have cW00 : w22.cell? ⟨w5.heap.size, 0, none⟩ = some (.slice (some ⟨WM, 0, none⟩) x.l.length Wc) := (W0_22.out).cell 0
    have cW01 : w22.cell? ⟨w5.heap.size, 1, none⟩ = some (.int .i64 x.s) := (W0_22.out).cell 1
    have cW02 : w22.cell? ⟨w5.heap.size, 2, none⟩ = some (.int .i64 x.e) := (W0_22.out).cell 2
    have cW03 : w22.cell? ⟨w5.heap.size, 3, none⟩ = some (.string x.n) := (W0_22.out).cell 3
    have cG00 : w22.cell? ⟨w8.heap.size, 0, none⟩ = some (.slice (some ⟨GM, 0, none⟩) x.l.length Gc) := (G0_22.out).cell 0
    have cG01 : w22.cell? ⟨w8.heap.size, 1, none⟩ = some (.int .i64 x.s) := (G0_22.out).cell 1
    have cG02 : w22.cell? ⟨w8.heap.size, 2, none⟩ = some (.int .i64 x.e) := (G0_22.out).cell 2
    have cG03 : w22.cell? ⟨w8.heap.size, 3, none⟩ = some (.string x.n) := (G0_22.out).cell 3
    have cE00 : w22.cell? ⟨w21.heap.size, 0, none⟩ = some (.slice (some ⟨EM, 0, none⟩) x.l.length Ec) := (E0_22.out).cell 0
    have cE01 : w22.cell? ⟨w21.heap.size, 1, none⟩ = some (.int .i64 x.s) := (E0_22.out).cell 1
    have cE02 : w22.cell? ⟨w21.heap.size, 2, none⟩ = some (.int .i64 x.e) := (E0_22.out).cell 2
    have cE03 : w22.cell? ⟨w21.heap.size, 3, none⟩ = some (.string x.n) := (E0_22.out).cell 3
    go_wp2_with fail
    refine (AlmK.heldA_any GM x.l.length Gc 1 x.s x.e x.n Hcs _ H_22.out Hm.out FX.out.2 (by omega) (by omega)).mono ?_
    rintro e w23 ⟨rfl, hb⟩
    have B23 : Hid (Below w.heap.size w w23) := grow_on B22.out hb
    have Z23 : Hid (w22.heap.size ≤ w23.heap.size) := hb.size
    have W_23 : Hid (Blk w23 WM Wcs 67) := W_22.out.grow hb
    have W0_23 : Hid (Blk w23 w5.heap.size #[.slice (some ⟨WM, 0, none⟩) x.l.length Wc, .int .i64 x.s, .int .i64 x.e, .string x.n] 40) := W0_22.out.grow hb
    have G0_23 : Hid (Blk w23 w8.heap.size #[.slice (some ⟨GM, 0, none⟩) x.l.length Gc, .int .i64 x.s, .int .i64 x.e, .string x.n] 40) := G0_22.out.grow hb
    have H_23 : Hid (Blk w23 GM Hcs 67) := H_22.out.grow hb
    have E_23 : Hid (Blk w23 EM Ecs 67) := E_22.out.grow hb
    have E0_23 : Hid (Blk w23 w21.heap.size #[.slice (some ⟨EM, 0, none⟩) x.l.length Ec, .int .i64 x.s, .int .i64 x.e, .string x.n] 40) := E0_22.out.grow hb
    clear hb cW00 cW01 cW02 cW03 cG00 cG01 cG02 cG03 cE00 cE01 cE02 cE03
    have cW00 : w23.cell? ⟨w5.heap.size, 0, none⟩ = some (.slice (some ⟨WM, 0, none⟩) x.l.length Wc) := (W0_23.out).cell 0
    have cW01 : w23.cell? ⟨w5.heap.size, 1, none⟩ = some (.int .i64 x.s) := (W0_23.out).cell 1
    have cW02 : w23.cell? ⟨w5.heap.size, 2, none⟩ = some (.int .i64 x.e) := (W0_23.out).cell 2
    have cW03 : w23.cell? ⟨w5.heap.size, 3, none⟩ = some (.string x.n) := (W0_23.out).cell 3
    have cG00 : w23.cell? ⟨w8.heap.size, 0, none⟩ = some (.slice (some ⟨GM, 0, none⟩) x.l.length Gc) := (G0_23.out).cell 0
    have cG01 : w23.cell? ⟨w8.heap.size, 1, none⟩ = some (.int .i64 x.s) := (G0_23.out).cell 1
    have cG02 : w23.cell? ⟨w8.heap.size, 2, none⟩ = some (.int .i64 x.e) := (G0_23.out).cell 2
    have cG03 : w23.cell? ⟨w8.heap.size, 3, none⟩ = some (.string x.n) := (G0_23.out).cell 3
    have cE00 : w23.cell? ⟨w21.heap.size, 0, none⟩ = some (.slice (some ⟨EM, 0, none⟩) x.l.length Ec) := (E0_23.out).cell 0
    have cE01 : w23.cell? ⟨w21.heap.size, 1, none⟩ = some (.int .i64 x.s) := (E0_23.out).cell 1
    have cE02 : w23.cell? ⟨w21.heap.size, 2, none⟩ = some (.int .i64 x.e) := (E0_23.out).cell 2
    have cE03 : w23.cell? ⟨w21.heap.size, 3, none⟩ = some (.string x.n) := (E0_23.out).cell 3
    go_wp2
    go_ret
    exact ⟨rfl, B23.out⟩
theorem own : ownKnob Try.prog.godebug = none := by kernel_rfl
theorem laidOut : laidOutB Try.prog = true := by kernel_rfl
set_option maxRecDepth 100000 in
theorem lifted (os : Os) (started : os.Started) (H : Type) (enc : TypeId × Value → H) :
    ReturnsInHanded {} Try.checked os 6 .any (Rows.fnExactFindAlarmSpec.pre6 enc Try.prog Try.f6 Rows.fnExactFindAlarmRow.domain false) (Rows.fnExactFindAlarmSpec.post enc Try.prog Try.f6 false true false false) := by
  refine returnsInHanded_of_change (C := Try.checked) own started (by kernel_rfl) Try.func6
    (ChangeSpec.witness6 (enc := enc) (C := Try.checked) false ⟨#[], #[.slice none 0 0, .slice none 0 0], []⟩ 8 (by kernel_rfl) (by kernel_rfl) (by kernel_rfl) (by kernel_rfl)) ?_
  intro W base args ds gs before hval0 hW hcnd _
  have hval : ∀ (j : Nat) t v, Try.f6.params[j]? = some t → args[j]? = some v → Value.okWide Try.prog W .any base t v := hval0
  have hW' := hW
  obtain ⟨p, q, hA0, hV, rfl, hfz, hnd⟩ := hW
  have hA : DataW.TrodAll enc Try.prog W 0 (fun _ => true) true Try.f6.params.toList args.toList ds p := hA0
  rw [Try.params6] at hA hval
  obtain ⟨v0, vs0, d0, ds0, p0, q0, hargs, rfl, rfl, h0, r0⟩ := trodAll_cons hA
  obtain ⟨v1, vs1, d1, ds1, p1, q1, rfl, rfl, rfl, h1, r1⟩ := trodAll_cons r0
  obtain ⟨rfl, rfl, rfl⟩ := trodAll_nil r1
  obtain rfl : args = #[v0, v1] := by cases args; simp_all
  obtain ⟨rfl, rfl⟩ := trodVars_none hV
  obtain ⟨a0, len0, cap0, rfl⟩ := okWide_slice Try.underlying22 (hval 0 22 v0 rfl rfl)
  have k0 := h0
  have lt0 : ∀ x ∈ p0, x.block < W.heap.size := by obtain ⟨m, hm⟩ := k0; exact DataW.trod_lt m _ _ _ hm
  obtain ⟨l0, rfl, w0, m0, f0⟩ := Go.Proofs.Ytbccaioahifloaa.Sts.open_parts h0
  obtain ⟨a1, len1, cap1, rfl⟩ := okWide_slice Try.underlying32 (hval 1 32 v1 rfl rfl)
  have k1 := h1
  have lt1 : ∀ x ∈ p1, x.block < W.heap.size := by obtain ⟨m, hm⟩ := k1; exact DataW.trod_lt m _ _ _ hm
  obtain ⟨l1, rfl, w1, m1, f1⟩ : ∃ l : List (ByteArray × ByteArray), len1 = l.length ∧ Go.Proofs.Ytbccaioahifloaa.LabS.Reads W a1 l ∧ l.length ≤ maxLen ∧ Go.Proofs.Ytbccaioahifloaa.LabT.Fits l := by
    obtain ⟨fuel, hf⟩ := h1
    exact Go.Proofs.Ytbccaioahifloaa.LabT.open_labs (by simpa [Value.cells] using hf)
  clear hA0 hval0
  refine (walk a0 cap0 l0 a1 cap1 l1 W w0 m0 f0 w1 m1 f1).mono fun e W' ⟨he, bel⟩ => ?_
  subst he
  exact ⟨_, rfl, _, _, _, [], _, [], hW', trodAll_mk1 (shut_bool Try.underlying4 _), (trodAll_cons_mk (Below.trod laidOut (by kernel_rfl) (of_decide_eq_true (by kernel_rfl)) k0 bel lt0) (trodAll_cons_mk (Below.trod laidOut (by kernel_rfl) (of_decide_eq_true (by kernel_rfl)) k1 bel lt1) trodAll_mk0)), rfl, bel.frame _, fun h => by cases h⟩

theorem over : Rows.fnExactFindAlarmRow.holds Try.pinned (OpenSpec.ofChange Rows.fnExactFindAlarmSpec) :=
  OpenClaim.holds_of_wide 6 Try.f6 rfl rfl rfl rfl rfl rfl rfl ⟨rfl, rfl, rfl, rfl, rfl⟩ rfl rfl rfl rfl rfl (by kernel_rfl) Try.func6 (by kernel_rfl)
    (of_decide_eq_true (by kernel_rfl)) (by unfold Func.isWrapper; first | (rw [if_pos (by decide +kernel)]; kernel_rfl) | (rw [if_neg (by decide +kernel)]; exact ⟨rfl, rfl⟩))
    (fun os started H enc _ => lifted os started H enc)

end Go.Proofs.Ytbccaioahifloaa.FnExactFindAlarm
namespace Go.Proofs.Ytbccaioahifloaa
theorem fnExactFindAlarm_holds : Rows.FnExactFindAlarmSaid := FnExactFindAlarm.over
#print axioms fnExactFindAlarm_holds
end Go.Proofs.Ytbccaioahifloaa
