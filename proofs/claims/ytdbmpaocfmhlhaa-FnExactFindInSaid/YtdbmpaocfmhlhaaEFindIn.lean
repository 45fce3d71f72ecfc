/-
  PROVED: at every part and every slice of labels impl.FindIn answers as spec.FindIn, leaves them as they were, keeps nothing of them, and its answer lies in memory of its own, so the law laws.FnExactFindIn returns true, whatever its arguments. No condition.
-/
import Derived.Test.YtdbmpaocfmhlhaaRows
import Derived.WalkKit
import Derived.ProofKit
import Derived.OpenShut
import Derived.ShutString
import Derived.ChangeOld
import Derived.Below
import Derived.WalkLawsBesides
import Derived.WalkSpells
import Derived.Test.YtdbmpaocfmhlhaaPrtJ
import Derived.Deep.RegionHeld3
namespace Go.Proofs.Ytdbmpaocfmhlhaa.FnExactFindIn
open Go.ChangeShapes Go.WideShapes Go.ChangeAt Go.RowKit
open Go.ChangeMaps (open_string shut_string)
set_option linter.unusedVariables false

open Go.Proofs.Ytdbmpaocfmhlhaa.Labs Go.Proofs.Ytdbmpaocfmhlhaa.LabS Go.Proofs.Ytdbmpaocfmhlhaa.Over Go.Proofs.Ytdbmpaocfmhlhaa.Blk Go.Proofs.Ytdbmpaocfmhlhaa.Alms Go.Proofs.Ytdbmpaocfmhlhaa.Rws Go.Proofs.Ytdbmpaocfmhlhaa.ChnC Go.Proofs.Ytdbmpaocfmhlhaa.ChnK Go.Proofs.Ytdbmpaocfmhlhaa.Chs Go.Proofs.Ytdbmpaocfmhlhaa.Prt
open Go.Proofs.Ytdbmpaocfmhlhaa.Alm (AlIn)
open Go.Proofs.Ytdbmpaocfmhlhaa.LabT (held_reads)
open Go.Proofs.Ytdbmpaocfmhlhaa.PrtM (MC blksC blksC_low blksC_high sumM sumM_chs)
theorem len_of {rs : List ARow} {P : List PAl} (h : pals rs = P) : rs.length = P.length := by rw [← pals_len, h]
theorem lenc_of {cs : List CRow} {C : List PCh} (h : chs cs = C) : cs.length = C.length := by rw [← chs_len, h]
theorem eqA_any (M M' c c' lo lo' d d' : Nat) (rs rs' : List ARow) (P : List PAl) (w : World) (h : AB lo w M d rs) (h' : AB lo' w M' d' rs') (hp : pals rs = P) (hp' : pals rs' = P) (hl : P.length ≤ maxLen) (hz : FitsP P) :
    Calls Try.prog 32 #[.slice (some ⟨M, 0, none⟩) rs.length c, .slice (some ⟨M', 0, none⟩) rs'.length c'] w fun e w' => e = .returned (.bool true) ∧ Below w.heap.size w w' := by
  have h1 := h.rd
  have h2 := h'.rd
  rw [hp] at h1
  rw [hp'] at h2
  rw [len_of hp, len_of hp']
  exact Alms.eq_any _ _ c c' P w h1.rd h2.rd hl hz
theorem rng {lo : Nat} {w : World} {M c : Nat} {rs : List ARow} (h : AB lo w M c rs) : ∀ k, blks M rs k → lo ≤ k ∧ k < w.heap.size := fun k hk => ⟨blks_low h k hk, blks_high h k hk⟩
theorem rngC {lo : Nat} {w : World} {M c : Nat} {cs : List CRow} (h : CB lo w M c cs) : ∀ k, blksC M cs k → lo ≤ k ∧ k < w.heap.size := fun k hk => ⟨blksC_low h k hk, blksC_high h k hk⟩
theorem row_len {lo : Nat} {w : World} {M c : Nat} {rs : List ARow} (h : AB lo w M c rs) : ∀ x ∈ rs, x.2.2.l.length ≤ 1048576 := fun x hx => (h.rows x hx).2.1
theorem rowC_len {lo : Nat} {w : World} {M c : Nat} {cs : List CRow} {C : List PCh} (h : CB lo w M c cs) (hp : chs cs = C) (hs : sumC C ≤ 2000000) : ∀ x ∈ cs, x.rs.length ≤ 2000000 ∧ ∀ y ∈ x.rs, y.2.2.l.length ≤ 1048576 := fun x hx => by
  refine ⟨?_, row_len (h.rows.rows x hx)⟩
  have hm : x.ch ∈ C := by rw [← hp]; exact List.mem_map.2 ⟨x, hx, rfl⟩
  have h1 := sumC_mem hm
  have h2 := pals_len x.rs
  have h3 : x.ch.P = pals x.rs := rfl
  rw [h3] at h1
  omega
theorem marksC {cs : List CRow} {C : List PCh} (hp : chs cs = C) (hl : C.length ≤ 1100000) (hs : sumC C ≤ 2200000) : 1 + sumM cs ≤ 8000000 := by
  have h1 := sumM_chs cs
  rw [hp, lenc_of hp] at h1
  omega
open Go.Proofs.Ytdbmpaocfmhlhaa.PrtJ
open Go.Proofs.Ytdbmpaocfmhlhaa.PrtF (findB)
open Go.Proofs.Ytdbmpaocfmhlhaa.Mark (Apart Marked)
theorem rnC {lo : Nat} {w : World} {M c : Nat} {cs : List CRow} {C : List PCh} (h : CB lo w M c cs) (hp : chs cs = C) : RdG RdN w (some ⟨M, 0, none⟩) C := by have := h.rn; rwa [hp] at this
theorem rdC {lo : Nat} {w : World} {M c : Nat} {cs : List CRow} {C : List PCh} (h : CB lo w M c cs) (hp : chs cs = C) : RdG RdA w (some ⟨M, 0, none⟩) C := (rnC h hp).rd
set_option maxRecDepth 100000 in
set_option maxHeartbeats 4000000 in
theorem walk (hd0 vr0 : Int) (a0 : Option Addr) (cap0 : Nat) (l0 : List PCh) (a1 : Option Addr) (cap1 : Nat) (l1 : List Lab) (w : World) (r0 : RdG RdA w a0 l0) (m0 : l0.length ≤ maxLen) (z0 : FitsC l0) (y0 : I64 hd0) (x0 : I64 vr0) (r1 : Reads w a1 l1) (m1 : l1.length ≤ maxLen) (z1 : LabT.Fits l1) :
    Calls Try.prog 5 #[.agg #[.int .i64 hd0, .int .i64 vr0, .slice a0 l0.length cap0], .slice a1 l1.length cap1] w fun e w' => e = .returned (.bool true) ∧ Below w.heap.size w w' := by
  have R0 : Hid (RdG RdA w a0 l0) := r0
  have M0 : Hid (l0.length ≤ maxLen) := m0
  have F0 : Hid (FitsC l0) := z0
  have I0 : Hid (I64 hd0 ∧ I64 vr0) := ⟨y0, x0⟩
  clear r0 m0 z0 y0 x0
  have R1 : Hid (Reads w a1 l1) := r1
  have M1 : Hid (l1.length ≤ maxLen) := m1
  have F1 : Hid (LabT.Fits l1) := z1
  clear r1 m1 z1
  have B0 : Hid (Below w.heap.size w w) := Below.refl _ _
  go_enter Try.func5, Try.ntmps5
  go_wp2_with fail
  refine (szPart_any hd0 vr0 a0 cap0 l0 1048576 _ (R0.out.below stays_rd (grow_on B0.out (Go.Joins.below_alloc1 w _))) M0.out F0.out (by omega) (by omega)).mono ?_
  rintro e w1 ⟨⟨k0, rfl, p0, hn⟩, hb⟩
  have P0_1 : Hid (Blk w1 w.heap.size #[.int .i64 hd0, .int .i64 vr0, .slice a0 l0.length cap0] 24) := (Blk.new _ _ _).grow hb
  have U_P0 : Hid (w.heap.size ≤ w.heap.size ∧ w.heap.size < w1.heap.size) := ⟨by omega, P0_1.out.lt⟩
  replace hb := grow_on (Go.Joins.below_alloc1 w _) hb
  have B1 : Hid (Below w.heap.size w w1) := grow_on B0.out hb
  have Z1 : Hid (w.heap.size ≤ w1.heap.size) := hb.size
  clear hb
  by_cases g0 : k0 < 0
  · clear hn
    go_wp2
    go_ret
    exact ⟨rfl, B1.out⟩
  have K0 : Hid (l0.length ≤ 1048576 ∧ sumC l0 ≤ 1048576 ∧ l0.length + sumC l0 ≤ 1048576) := by have := hn (by omega); exact ⟨by omega, by omega, by omega⟩
  have N0 : Hid (PrtO.Small l0) := fun q hq => by have := sumC_mem hq; have := K0.out.2.1; exact ⟨by omega, lenM_of (by omega)⟩
  clear hn
  have cP00 : w1.cell? ⟨w.heap.size, 0, none⟩ = some (.int .i64 hd0) := (P0_1.out).cell 0
  have cP01 : w1.cell? ⟨w.heap.size, 1, none⟩ = some (.int .i64 vr0) := (P0_1.out).cell 1
  have cP02 : w1.cell? ⟨w.heap.size, 2, none⟩ = some (.slice a0 l0.length cap0) := (P0_1.out).cell 2
  go_wp2_with fail
  refine (LabT.sz_any a1 cap1 l1 k0 _ (R1.out.below B1.out) M1.out F1.out (by omega) (by omega)).mono ?_
  rintro e w2 ⟨⟨k1, rfl, p1, hn⟩, hb⟩
  have B2 : Hid (Below w.heap.size w w2) := grow_on B1.out hb
  have Z2 : Hid (w1.heap.size ≤ w2.heap.size) := hb.size
  have P0_2 : Hid (Blk w2 w.heap.size #[.int .i64 hd0, .int .i64 vr0, .slice a0 l0.length cap0] 24) := P0_1.out.grow hb
  clear hb cP00 cP01 cP02
  by_cases g1 : k1 < 0
  · clear hn
    go_wp2
    go_ret
    exact ⟨rfl, B2.out⟩
  have K1 : Hid (l1.length ≤ 1048576) := by have := hn (by omega); show l1.length ≤ 1048576; omega
  clear hn
  rcases hFB : findB l0 l1 with _ | x
  · have FB : Hid (findB l0 l1 = none) := hFB
    clear hFB
    have cP00 : w2.cell? ⟨w.heap.size, 0, none⟩ = some (.int .i64 hd0) := (P0_2.out).cell 0
    have cP01 : w2.cell? ⟨w.heap.size, 1, none⟩ = some (.int .i64 vr0) := (P0_2.out).cell 1
    have cP02 : w2.cell? ⟨w.heap.size, 2, none⟩ = some (.slice a0 l0.length cap0) := (P0_2.out).cell 2
    go_wp2_with fail
    refine (toPart_any hd0 vr0 a0 cap0 l0 _ (R0.out.below stays_rd B2.out) K0.out.1 K0.out.2.1).mono ?_
    rintro e w3 ⟨⟨SM, Sr, rfl, hA, hP⟩, hb⟩
    have S_3 : Hid (CB w2.heap.size w3 SM l0.length Sr) := hA.down (by first | exact Nat.le_refl _ | simp)
    have SP : Hid (chs Sr = l0) := hP
    have U_S : Hid (w2.heap.size ≤ SM ∧ SM < w3.heap.size) := ⟨S_3.out.at', S_3.out.lt⟩
    clear hA hP
    have B3 : Hid (Below w.heap.size w w3) := grow_on B2.out hb
    have Z3 : Hid (w2.heap.size ≤ w3.heap.size) := hb.size
    have P0_3 : Hid (Blk w3 w.heap.size #[.int .i64 hd0, .int .i64 vr0, .slice a0 l0.length cap0] 24) := P0_2.out.grow hb
    clear hb cP00 cP01 cP02
    have cP00 : w3.cell? ⟨w.heap.size, 0, none⟩ = some (.int .i64 hd0) := (P0_3.out).cell 0
    have cP01 : w3.cell? ⟨w.heap.size, 1, none⟩ = some (.int .i64 vr0) := (P0_3.out).cell 1
    have cP02 : w3.cell? ⟨w.heap.size, 2, none⟩ = some (.slice a0 l0.length cap0) := (P0_3.out).cell 2
    go_wp2_with fail
    refine (LabT.to_any a1 cap1 l1 _ (R1.out.below B3.out) K1.out).mono ?_
    rintro e w4 ⟨rfl, ⟨Tcs, hk, hs, hh⟩, hb⟩
    have T_4 : Hid (Blk w4 w3.heap.size Tcs 77) := (by first | exact hk | (have hk2 := hk; simp at hk2; exact hk2))
    have Ts : Hid (Tcs.size = l1.length * 2) := hs
    have Th : Hid (LabT.Held Tcs l1 l1.length) := hh
    have U_T : Hid (w3.heap.size ≤ w3.heap.size ∧ w3.heap.size < w4.heap.size) := ⟨by omega, T_4.out.lt⟩
    clear hk hs hh
    have B4 : Hid (Below w.heap.size w w4) := grow_on B3.out hb
    have Z4 : Hid (w3.heap.size ≤ w4.heap.size) := hb.size
    have P0_4 : Hid (Blk w4 w.heap.size #[.int .i64 hd0, .int .i64 vr0, .slice a0 l0.length cap0] 24) := P0_3.out.grow hb
    have S_4 : Hid (CB w2.heap.size w4 SM l0.length Sr) := S_3.out.grow hb
    clear hb cP00 cP01 cP02
    have cP00 : w4.cell? ⟨w.heap.size, 0, none⟩ = some (.int .i64 hd0) := (P0_4.out).cell 0
    have cP01 : w4.cell? ⟨w.heap.size, 1, none⟩ = some (.int .i64 vr0) := (P0_4.out).cell 1
    have cP02 : w4.cell? ⟨w.heap.size, 2, none⟩ = some (.slice a0 l0.length cap0) := (P0_4.out).cell 2
    go_wp2_with fail
    refine (specFind_no hd0 vr0 _ _ _ _ l0 l1 _ (rnC S_4.out SP.out) (held_reads T_4.out Th.out) K0.out.1 N0.out M1.out F1.out FB.out).mono ?_
    rintro e w5 ⟨rfl, hb⟩
    have B5 : Hid (Below w.heap.size w w5) := grow_on B4.out hb
    have Z5 : Hid (w4.heap.size ≤ w5.heap.size) := hb.size
    have P0_5 : Hid (Blk w5 w.heap.size #[.int .i64 hd0, .int .i64 vr0, .slice a0 l0.length cap0] 24) := P0_4.out.grow hb
    have S_5 : Hid (CB w2.heap.size w5 SM l0.length Sr) := S_4.out.grow hb
    have T_5 : Hid (Blk w5 w3.heap.size Tcs 77) := T_4.out.grow hb
    clear hb cP00 cP01 cP02
    have cP00 : (w5.alloc (.cells #[.slice none 0 0, .int .i64 0, .int .i64 0, .string ByteArray.empty] 38)).cell? ⟨w.heap.size, 0, none⟩ = some (.int .i64 hd0) := (P0_5.out.alloc _).cell 0
    have cP01 : (w5.alloc (.cells #[.slice none 0 0, .int .i64 0, .int .i64 0, .string ByteArray.empty] 38)).cell? ⟨w.heap.size, 1, none⟩ = some (.int .i64 vr0) := (P0_5.out.alloc _).cell 1
    have cP02 : (w5.alloc (.cells #[.slice none 0 0, .int .i64 0, .int .i64 0, .string ByteArray.empty] 38)).cell? ⟨w.heap.size, 2, none⟩ = some (.slice a0 l0.length cap0) := (P0_5.out.alloc _).cell 2
    go_wp2_with fail
    refine (toPart_any hd0 vr0 a0 cap0 l0 _ (R0.out.below stays_rd (grow_on B5.out (Go.Joins.below_alloc1 w5 _))) K0.out.1 K0.out.2.1).mono ?_
    rintro e w6 ⟨⟨XM, Xr, rfl, hA, hP⟩, hb⟩
    have X_6 : Hid (CB w5.heap.size w6 XM l0.length Xr) := hA.down (by simp)
    have XP : Hid (chs Xr = l0) := hP
    have XR : Hid (∀ k, blksC XM Xr k → w5.heap.size < k ∧ k < w6.heap.size) := fun k hk => by have := rngC hA k hk; simp at this; omega
    clear hA hP
    have W0_6 : Hid (Blk w6 w5.heap.size #[.slice none 0 0, .int .i64 0, .int .i64 0, .string ByteArray.empty] 38) := (Blk.new _ _ _).grow hb
    have U_W0 : Hid (w5.heap.size ≤ w5.heap.size ∧ w5.heap.size < w6.heap.size) := ⟨Nat.le_refl _, W0_6.out.lt⟩
    replace hb := grow_on (Go.Joins.below_alloc1 w5 _) hb
    have B6 : Hid (Below w.heap.size w w6) := grow_on B5.out hb
    have Z6 : Hid (w5.heap.size ≤ w6.heap.size) := hb.size
    have P0_6 : Hid (Blk w6 w.heap.size #[.int .i64 hd0, .int .i64 vr0, .slice a0 l0.length cap0] 24) := P0_5.out.grow hb
    clear hb cP00 cP01 cP02
    have cP00 : (w6.alloc (.cells #[.int .i64 hd0, .int .i64 vr0, .slice (some ⟨XM, 0, none⟩) l0.length l0.length] 29)).cell? ⟨w.heap.size, 0, none⟩ = some (.int .i64 hd0) := (P0_6.out.alloc _).cell 0
    have cP01 : (w6.alloc (.cells #[.int .i64 hd0, .int .i64 vr0, .slice (some ⟨XM, 0, none⟩) l0.length l0.length] 29)).cell? ⟨w.heap.size, 1, none⟩ = some (.int .i64 vr0) := (P0_6.out.alloc _).cell 1
    have cP02 : (w6.alloc (.cells #[.int .i64 hd0, .int .i64 vr0, .slice (some ⟨XM, 0, none⟩) l0.length l0.length] 29)).cell? ⟨w.heap.size, 2, none⟩ = some (.slice a0 l0.length cap0) := (P0_6.out.alloc _).cell 2
    have cW00 : (w6.alloc (.cells #[.int .i64 hd0, .int .i64 vr0, .slice (some ⟨XM, 0, none⟩) l0.length l0.length] 29)).cell? ⟨w5.heap.size, 0, none⟩ = some (.slice none 0 0) := (W0_6.out.alloc _).cell 0
    have cW01 : (w6.alloc (.cells #[.int .i64 hd0, .int .i64 vr0, .slice (some ⟨XM, 0, none⟩) l0.length l0.length] 29)).cell? ⟨w5.heap.size, 1, none⟩ = some (.int .i64 0) := (W0_6.out.alloc _).cell 1
    have cW02 : (w6.alloc (.cells #[.int .i64 hd0, .int .i64 vr0, .slice (some ⟨XM, 0, none⟩) l0.length l0.length] 29)).cell? ⟨w5.heap.size, 2, none⟩ = some (.int .i64 0) := (W0_6.out.alloc _).cell 2
    have cW03 : (w6.alloc (.cells #[.int .i64 hd0, .int .i64 vr0, .slice (some ⟨XM, 0, none⟩) l0.length l0.length] 29)).cell? ⟨w5.heap.size, 3, none⟩ = some (.string ByteArray.empty) := (W0_6.out.alloc _).cell 3
    go_wp2_with fail
    refine (LabT.to_any a1 cap1 l1 _ (R1.out.below (grow_on B6.out (Go.Joins.below_alloc1 w6 _))) K1.out).mono ?_
    rintro e w7 ⟨rfl, ⟨Ycs, hk, hs, hh⟩, hb⟩
    have Y_7 : Hid (Blk w7 (w6.heap.size + 1) Ycs 77) := (by first | exact hk | (have hk2 := hk; simp at hk2; exact hk2))
    have Ys : Hid (Ycs.size = l1.length * 2) := hs
    have Yh : Hid (LabT.Held Ycs l1 l1.length) := hh
    have U_Y : Hid (w6.heap.size ≤ (w6.heap.size + 1) ∧ (w6.heap.size + 1) < w7.heap.size) := ⟨by omega, Y_7.out.lt⟩
    clear hk hs hh
    have Q0_7 : Hid (Blk w7 w6.heap.size #[.int .i64 hd0, .int .i64 vr0, .slice (some ⟨XM, 0, none⟩) l0.length l0.length] 29) := (Blk.new _ _ _).grow hb
    have U_Q0 : Hid (w6.heap.size ≤ w6.heap.size ∧ w6.heap.size < w7.heap.size) := ⟨Nat.le_refl _, Q0_7.out.lt⟩
    replace hb := grow_on (Go.Joins.below_alloc1 w6 _) hb
    have B7 : Hid (Below w.heap.size w w7) := grow_on B6.out hb
    have Z7 : Hid (w6.heap.size ≤ w7.heap.size) := hb.size
    have P0_7 : Hid (Blk w7 w.heap.size #[.int .i64 hd0, .int .i64 vr0, .slice a0 l0.length cap0] 24) := P0_6.out.grow hb
    have W0_7 : Hid (Blk w7 w5.heap.size #[.slice none 0 0, .int .i64 0, .int .i64 0, .string ByteArray.empty] 38) := W0_6.out.grow hb
    have X_7 : Hid (CB w5.heap.size w7 XM l0.length Xr) := X_6.out.grow hb
    clear hb cP00 cP01 cP02 cW00 cW01 cW02 cW03
    have cP00 : w7.cell? ⟨w.heap.size, 0, none⟩ = some (.int .i64 hd0) := (P0_7.out).cell 0
    have cP01 : w7.cell? ⟨w.heap.size, 1, none⟩ = some (.int .i64 vr0) := (P0_7.out).cell 1
    have cP02 : w7.cell? ⟨w.heap.size, 2, none⟩ = some (.slice a0 l0.length cap0) := (P0_7.out).cell 2
    have cW00 : w7.cell? ⟨w5.heap.size, 0, none⟩ = some (.slice none 0 0) := (W0_7.out).cell 0
    have cW01 : w7.cell? ⟨w5.heap.size, 1, none⟩ = some (.int .i64 0) := (W0_7.out).cell 1
    have cW02 : w7.cell? ⟨w5.heap.size, 2, none⟩ = some (.int .i64 0) := (W0_7.out).cell 2
    have cW03 : w7.cell? ⟨w5.heap.size, 3, none⟩ = some (.string ByteArray.empty) := (W0_7.out).cell 3
    have cQ00 : w7.cell? ⟨w6.heap.size, 0, none⟩ = some (.int .i64 hd0) := (Q0_7.out).cell 0
    have cQ01 : w7.cell? ⟨w6.heap.size, 1, none⟩ = some (.int .i64 vr0) := (Q0_7.out).cell 1
    have cQ02 : w7.cell? ⟨w6.heap.size, 2, none⟩ = some (.slice (some ⟨XM, 0, none⟩) l0.length l0.length) := (Q0_7.out).cell 2
    go_wp2_with fail
    refine (implFind_no hd0 vr0 _ _ _ _ l0 l1 _ (rdC X_7.out XP.out) (held_reads Y_7.out Yh.out) K0.out.1 N0.out M1.out F1.out FB.out).mono ?_
    rintro e w8 ⟨rfl, hb⟩
    have B8 : Hid (Below w.heap.size w w8) := grow_on B7.out hb
    have Z8 : Hid (w7.heap.size ≤ w8.heap.size) := hb.size
    have P0_8 : Hid (Blk w8 w.heap.size #[.int .i64 hd0, .int .i64 vr0, .slice a0 l0.length cap0] 24) := P0_7.out.grow hb
    have W0_8 : Hid (Blk w8 w5.heap.size #[.slice none 0 0, .int .i64 0, .int .i64 0, .string ByteArray.empty] 38) := W0_7.out.grow hb
    have X_8 : Hid (CB w5.heap.size w8 XM l0.length Xr) := X_7.out.grow hb
    have Q0_8 : Hid (Blk w8 w6.heap.size #[.int .i64 hd0, .int .i64 vr0, .slice (some ⟨XM, 0, none⟩) l0.length l0.length] 29) := Q0_7.out.grow hb
    have Y_8 : Hid (Blk w8 (w6.heap.size + 1) Ycs 77) := Y_7.out.grow hb
    clear hb cP00 cP01 cP02 cW00 cW01 cW02 cW03 cQ00 cQ01 cQ02
    have eA : Alm.sameB [] 0 0 ByteArray.empty [] 0 0 ByteArray.empty = true := Alm.same_self _ _ _ _
    have cP00 : (w8.alloc (.cells #[.slice none 0 0, .int .i64 0, .int .i64 0, .string ByteArray.empty] 38)).cell? ⟨w.heap.size, 0, none⟩ = some (.int .i64 hd0) := (P0_8.out.alloc _).cell 0
    have cP01 : (w8.alloc (.cells #[.slice none 0 0, .int .i64 0, .int .i64 0, .string ByteArray.empty] 38)).cell? ⟨w.heap.size, 1, none⟩ = some (.int .i64 vr0) := (P0_8.out.alloc _).cell 1
    have cP02 : (w8.alloc (.cells #[.slice none 0 0, .int .i64 0, .int .i64 0, .string ByteArray.empty] 38)).cell? ⟨w.heap.size, 2, none⟩ = some (.slice a0 l0.length cap0) := (P0_8.out.alloc _).cell 2
    have cW00 : (w8.alloc (.cells #[.slice none 0 0, .int .i64 0, .int .i64 0, .string ByteArray.empty] 38)).cell? ⟨w5.heap.size, 0, none⟩ = some (.slice none 0 0) := (W0_8.out.alloc _).cell 0
    have cW01 : (w8.alloc (.cells #[.slice none 0 0, .int .i64 0, .int .i64 0, .string ByteArray.empty] 38)).cell? ⟨w5.heap.size, 1, none⟩ = some (.int .i64 0) := (W0_8.out.alloc _).cell 1
    have cW02 : (w8.alloc (.cells #[.slice none 0 0, .int .i64 0, .int .i64 0, .string ByteArray.empty] 38)).cell? ⟨w5.heap.size, 2, none⟩ = some (.int .i64 0) := (W0_8.out.alloc _).cell 2
    have cW03 : (w8.alloc (.cells #[.slice none 0 0, .int .i64 0, .int .i64 0, .string ByteArray.empty] 38)).cell? ⟨w5.heap.size, 3, none⟩ = some (.string ByteArray.empty) := (W0_8.out.alloc _).cell 3
    have cQ00 : (w8.alloc (.cells #[.slice none 0 0, .int .i64 0, .int .i64 0, .string ByteArray.empty] 38)).cell? ⟨w6.heap.size, 0, none⟩ = some (.int .i64 hd0) := (Q0_8.out.alloc _).cell 0
    have cQ01 : (w8.alloc (.cells #[.slice none 0 0, .int .i64 0, .int .i64 0, .string ByteArray.empty] 38)).cell? ⟨w6.heap.size, 1, none⟩ = some (.int .i64 vr0) := (Q0_8.out.alloc _).cell 1
    have cQ02 : (w8.alloc (.cells #[.slice none 0 0, .int .i64 0, .int .i64 0, .string ByteArray.empty] 38)).cell? ⟨w6.heap.size, 2, none⟩ = some (.slice (some ⟨XM, 0, none⟩) l0.length l0.length) := (Q0_8.out.alloc _).cell 2
    go_wp2_with fail
    refine (Alm.eq_any none none 0 0 [] [] 0 0 0 0 ByteArray.empty ByteArray.empty _ (.inl rfl) (.inl rfl) (by simp) (by simp)).mono ?_
    rintro e w9 ⟨rfl, hb⟩
    have G0_9 : Hid (Blk w9 w8.heap.size #[.slice none 0 0, .int .i64 0, .int .i64 0, .string ByteArray.empty] 38) := (Blk.new _ _ _).grow hb
    have U_G0 : Hid (w8.heap.size ≤ w8.heap.size ∧ w8.heap.size < w9.heap.size) := ⟨Nat.le_refl _, G0_9.out.lt⟩
    replace hb := grow_on (Go.Joins.below_alloc1 w8 _) hb
    have B9 : Hid (Below w.heap.size w w9) := grow_on B8.out hb
    have Z9 : Hid (w8.heap.size ≤ w9.heap.size) := hb.size
    have P0_9 : Hid (Blk w9 w.heap.size #[.int .i64 hd0, .int .i64 vr0, .slice a0 l0.length cap0] 24) := P0_8.out.grow hb
    have W0_9 : Hid (Blk w9 w5.heap.size #[.slice none 0 0, .int .i64 0, .int .i64 0, .string ByteArray.empty] 38) := W0_8.out.grow hb
    have X_9 : Hid (CB w5.heap.size w9 XM l0.length Xr) := X_8.out.grow hb
    have Q0_9 : Hid (Blk w9 w6.heap.size #[.int .i64 hd0, .int .i64 vr0, .slice (some ⟨XM, 0, none⟩) l0.length l0.length] 29) := Q0_8.out.grow hb
    have Y_9 : Hid (Blk w9 (w6.heap.size + 1) Ycs 77) := Y_8.out.grow hb
    clear hb cP00 cP01 cP02 cW00 cW01 cW02 cW03 cQ00 cQ01 cQ02
    have cP00 : w9.cell? ⟨w.heap.size, 0, none⟩ = some (.int .i64 hd0) := (P0_9.out).cell 0
    have cP01 : w9.cell? ⟨w.heap.size, 1, none⟩ = some (.int .i64 vr0) := (P0_9.out).cell 1
    have cP02 : w9.cell? ⟨w.heap.size, 2, none⟩ = some (.slice a0 l0.length cap0) := (P0_9.out).cell 2
    have cQ00 : w9.cell? ⟨w6.heap.size, 0, none⟩ = some (.int .i64 hd0) := (Q0_9.out).cell 0
    have cQ01 : w9.cell? ⟨w6.heap.size, 1, none⟩ = some (.int .i64 vr0) := (Q0_9.out).cell 1
    have cQ02 : w9.cell? ⟨w6.heap.size, 2, none⟩ = some (.slice (some ⟨XM, 0, none⟩) l0.length l0.length) := (Q0_9.out).cell 2
    go_wp2
    have kz : Below w9.heap.size w9 w9.drew := (Below.refl _ _).drew
    have kP0 := P0_9.out.lt
    have kQ0 := Q0_9.out.lt
    have HS : Hid (∀ w', Below w9.heap.size w9 w' → Below w9.heap.size w9 w' ∧ w'.cell? ⟨w.heap.size, 0, none⟩ = some (.int .i64 hd0) ∧ w'.cell? ⟨w.heap.size, 1, none⟩ = some (.int .i64 vr0) ∧ w'.cell? ⟨w.heap.size, 2, none⟩ = some (.slice a0 l0.length cap0) ∧ w'.cell? ⟨w6.heap.size, 0, none⟩ = some (.int .i64 hd0) ∧ w'.cell? ⟨w6.heap.size, 1, none⟩ = some (.int .i64 vr0) ∧ w'.cell? ⟨w6.heap.size, 2, none⟩ = some (.slice (some ⟨XM, 0, none⟩) l0.length l0.length)) := fun w' h => ⟨h, (h.cell kP0).trans cP00, (h.cell kP0).trans cP01, (h.cell kP0).trans cP02, (h.cell kQ0).trans cQ00, (h.cell kQ0).trans cQ01, (h.cell kQ0).trans cQ02⟩
    go_region_held3 (fun w' => Below w9.heap.size w9 w' ∧ w'.cell? ⟨w.heap.size, 0, none⟩ = some (.int .i64 hd0) ∧ w'.cell? ⟨w.heap.size, 1, none⟩ = some (.int .i64 vr0) ∧ w'.cell? ⟨w.heap.size, 2, none⟩ = some (.slice a0 l0.length cap0) ∧ w'.cell? ⟨w6.heap.size, 0, none⟩ = some (.int .i64 hd0) ∧ w'.cell? ⟨w6.heap.size, 1, none⟩ = some (.int .i64 vr0) ∧ w'.cell? ⟨w6.heap.size, 2, none⟩ = some (.slice (some ⟨XM, 0, none⟩) l0.length l0.length)) (first | with_reducible exact HS.out _ kz | with_reducible exact HS.out _ (grow_on kz hy0) | with_reducible exact HS.out _ (grow_on (grow_on kz hy0) hy1) | (go_keep; done)) (first | (go_at_call 10; with_reducible refine (toPart_any hd0 vr0 a0 cap0 l0 _ (R0.out.below stays_rd (grow_on B9.out kz)) K0.out.1 K0.out.2.1).mono ?_; rintro e wy ⟨⟨EM, Er, rfl, hA, hP⟩, hy0⟩) | (go_at_call 12; refine (eqPart_any hd0 vr0 _ _ _ _ l0 _ ((rdC X_9.out XP.out).below stays_rd (grow_on kz hy0)) (rdC hA hP) M0.out F0.out).mono ?_; rintro e w10 ⟨rfl, hy1⟩))
    have hb := (grow_on (grow_on kz hy0) hy1)
    have B10 : Hid (Below w.heap.size w w10) := grow_on B9.out hb
    have Z10 : Hid (w9.heap.size ≤ w10.heap.size) := hb.size
    have P0_10 : Hid (Blk w10 w.heap.size #[.int .i64 hd0, .int .i64 vr0, .slice a0 l0.length cap0] 24) := P0_9.out.grow hb
    have W0_10 : Hid (Blk w10 w5.heap.size #[.slice none 0 0, .int .i64 0, .int .i64 0, .string ByteArray.empty] 38) := W0_9.out.grow hb
    have X_10 : Hid (CB w5.heap.size w10 XM l0.length Xr) := X_9.out.grow hb
    have Q0_10 : Hid (Blk w10 w6.heap.size #[.int .i64 hd0, .int .i64 vr0, .slice (some ⟨XM, 0, none⟩) l0.length l0.length] 29) := Q0_9.out.grow hb
    have Y_10 : Hid (Blk w10 (w6.heap.size + 1) Ycs 77) := Y_9.out.grow hb
    have G0_10 : Hid (Blk w10 w8.heap.size #[.slice none 0 0, .int .i64 0, .int .i64 0, .string ByteArray.empty] 38) := G0_9.out.grow hb
    clear hb kz HS hy0 hy1 kP0 kQ0 cP00 cP01 cP02 cQ00 cQ01 cQ02 hA hP
    have cP00 : w10.cell? ⟨w.heap.size, 0, none⟩ = some (.int .i64 hd0) := (P0_10.out).cell 0
    have cP01 : w10.cell? ⟨w.heap.size, 1, none⟩ = some (.int .i64 vr0) := (P0_10.out).cell 1
    have cP02 : w10.cell? ⟨w.heap.size, 2, none⟩ = some (.slice a0 l0.length cap0) := (P0_10.out).cell 2
    have cW00 : w10.cell? ⟨w5.heap.size, 0, none⟩ = some (.slice none 0 0) := (W0_10.out).cell 0
    have cW01 : w10.cell? ⟨w5.heap.size, 1, none⟩ = some (.int .i64 0) := (W0_10.out).cell 1
    have cW02 : w10.cell? ⟨w5.heap.size, 2, none⟩ = some (.int .i64 0) := (W0_10.out).cell 2
    have cW03 : w10.cell? ⟨w5.heap.size, 3, none⟩ = some (.string ByteArray.empty) := (W0_10.out).cell 3
    have cQ00 : w10.cell? ⟨w6.heap.size, 0, none⟩ = some (.int .i64 hd0) := (Q0_10.out).cell 0
    have cQ01 : w10.cell? ⟨w6.heap.size, 1, none⟩ = some (.int .i64 vr0) := (Q0_10.out).cell 1
    have cQ02 : w10.cell? ⟨w6.heap.size, 2, none⟩ = some (.slice (some ⟨XM, 0, none⟩) l0.length l0.length) := (Q0_10.out).cell 2
    have cG00 : w10.cell? ⟨w8.heap.size, 0, none⟩ = some (.slice none 0 0) := (G0_10.out).cell 0
    have cG01 : w10.cell? ⟨w8.heap.size, 1, none⟩ = some (.int .i64 0) := (G0_10.out).cell 1
    have cG02 : w10.cell? ⟨w8.heap.size, 2, none⟩ = some (.int .i64 0) := (G0_10.out).cell 2
    have cG03 : w10.cell? ⟨w8.heap.size, 3, none⟩ = some (.string ByteArray.empty) := (G0_10.out).cell 3
    go_wp2_with fail
    refine (LabT.to_any a1 cap1 l1 _ (R1.out.below B10.out) K1.out).mono ?_
    rintro e w11 ⟨rfl, ⟨Zcs, hk, hs, hh⟩, hb⟩
    have Z_11 : Hid (Blk w11 w10.heap.size Zcs 77) := (by first | exact hk | (have hk2 := hk; simp at hk2; exact hk2))
    have Zs : Hid (Zcs.size = l1.length * 2) := hs
    have Zh : Hid (LabT.Held Zcs l1 l1.length) := hh
    have U_Z : Hid (w10.heap.size ≤ w10.heap.size ∧ w10.heap.size < w11.heap.size) := ⟨by omega, Z_11.out.lt⟩
    clear hk hs hh
    have B11 : Hid (Below w.heap.size w w11) := grow_on B10.out hb
    have Z11 : Hid (w10.heap.size ≤ w11.heap.size) := hb.size
    have P0_11 : Hid (Blk w11 w.heap.size #[.int .i64 hd0, .int .i64 vr0, .slice a0 l0.length cap0] 24) := P0_10.out.grow hb
    have W0_11 : Hid (Blk w11 w5.heap.size #[.slice none 0 0, .int .i64 0, .int .i64 0, .string ByteArray.empty] 38) := W0_10.out.grow hb
    have X_11 : Hid (CB w5.heap.size w11 XM l0.length Xr) := X_10.out.grow hb
    have Q0_11 : Hid (Blk w11 w6.heap.size #[.int .i64 hd0, .int .i64 vr0, .slice (some ⟨XM, 0, none⟩) l0.length l0.length] 29) := Q0_10.out.grow hb
    have Y_11 : Hid (Blk w11 (w6.heap.size + 1) Ycs 77) := Y_10.out.grow hb
    have G0_11 : Hid (Blk w11 w8.heap.size #[.slice none 0 0, .int .i64 0, .int .i64 0, .string ByteArray.empty] 38) := G0_10.out.grow hb
    clear hb cP00 cP01 cP02 cW00 cW01 cW02 cW03 cQ00 cQ01 cQ02 cG00 cG01 cG02 cG03
    have eL : decide (l1 = l1) = true := decide_eq_true rfl
    have cP00 : w11.cell? ⟨w.heap.size, 0, none⟩ = some (.int .i64 hd0) := (P0_11.out).cell 0
    have cP01 : w11.cell? ⟨w.heap.size, 1, none⟩ = some (.int .i64 vr0) := (P0_11.out).cell 1
    have cP02 : w11.cell? ⟨w.heap.size, 2, none⟩ = some (.slice a0 l0.length cap0) := (P0_11.out).cell 2
    have cW00 : w11.cell? ⟨w5.heap.size, 0, none⟩ = some (.slice none 0 0) := (W0_11.out).cell 0
    have cW01 : w11.cell? ⟨w5.heap.size, 1, none⟩ = some (.int .i64 0) := (W0_11.out).cell 1
    have cW02 : w11.cell? ⟨w5.heap.size, 2, none⟩ = some (.int .i64 0) := (W0_11.out).cell 2
    have cW03 : w11.cell? ⟨w5.heap.size, 3, none⟩ = some (.string ByteArray.empty) := (W0_11.out).cell 3
    have cQ00 : w11.cell? ⟨w6.heap.size, 0, none⟩ = some (.int .i64 hd0) := (Q0_11.out).cell 0
    have cQ01 : w11.cell? ⟨w6.heap.size, 1, none⟩ = some (.int .i64 vr0) := (Q0_11.out).cell 1
    have cQ02 : w11.cell? ⟨w6.heap.size, 2, none⟩ = some (.slice (some ⟨XM, 0, none⟩) l0.length l0.length) := (Q0_11.out).cell 2
    have cG00 : w11.cell? ⟨w8.heap.size, 0, none⟩ = some (.slice none 0 0) := (G0_11.out).cell 0
    have cG01 : w11.cell? ⟨w8.heap.size, 1, none⟩ = some (.int .i64 0) := (G0_11.out).cell 1
    have cG02 : w11.cell? ⟨w8.heap.size, 2, none⟩ = some (.int .i64 0) := (G0_11.out).cell 2
    have cG03 : w11.cell? ⟨w8.heap.size, 3, none⟩ = some (.string ByteArray.empty) := (G0_11.out).cell 3
    go_wp2_with fail
    refine (LabT.eq_any _ _ _ _ l1 l1 _ (held_reads Y_11.out Yh.out) (held_reads Z_11.out Zh.out) M1.out M1.out).mono ?_
    rintro e w12 ⟨rfl, hb⟩
    have B12 : Hid (Below w.heap.size w w12) := grow_on B11.out hb
    have Z12 : Hid (w11.heap.size ≤ w12.heap.size) := hb.size
    have P0_12 : Hid (Blk w12 w.heap.size #[.int .i64 hd0, .int .i64 vr0, .slice a0 l0.length cap0] 24) := P0_11.out.grow hb
    have W0_12 : Hid (Blk w12 w5.heap.size #[.slice none 0 0, .int .i64 0, .int .i64 0, .string ByteArray.empty] 38) := W0_11.out.grow hb
    have X_12 : Hid (CB w5.heap.size w12 XM l0.length Xr) := X_11.out.grow hb
    have Q0_12 : Hid (Blk w12 w6.heap.size #[.int .i64 hd0, .int .i64 vr0, .slice (some ⟨XM, 0, none⟩) l0.length l0.length] 29) := Q0_11.out.grow hb
    have Y_12 : Hid (Blk w12 (w6.heap.size + 1) Ycs 77) := Y_11.out.grow hb
    have G0_12 : Hid (Blk w12 w8.heap.size #[.slice none 0 0, .int .i64 0, .int .i64 0, .string ByteArray.empty] 38) := G0_11.out.grow hb
    have Z_12 : Hid (Blk w12 w10.heap.size Zcs 77) := Z_11.out.grow hb
    clear hb cP00 cP01 cP02 cW00 cW01 cW02 cW03 cQ00 cQ01 cQ02 cG00 cG01 cG02 cG03
    have XL : Hid (Xr.length = l0.length) := lenc_of XP.out
    have XS : Hid (1 + sumM Xr ≤ 8000000) := marksC XP.out (by have := K0.out; omega) (by have := K0.out; omega)
    have hXM : Hid (Calls Try.prog 21 #[.agg #[.int .i64 hd0, .int .i64 vr0, .slice (some ⟨XM, 0, none⟩) l0.length l0.length], .int .i64 1] w12 fun e w' => e = .returned (.int .i64 ((1 + sumM Xr : Nat) : Int)) ∧ Only (blksC XM Xr) w12 w') := by
      have h := (PrtM.markPart_any hd0 vr0 XM l0.length 1 _ l0.length Xr w12 X_12.out (by rw [XL.out]; have := K0.out.1; omega) (fun x hx => (rowC_len X_12.out XP.out (by have := K0.out; omega) x hx).1) (by omega) (by have := XS.out; omega)).mono (fun e w' h => (⟨h.1, h.2.2⟩ : e = .returned (.int .i64 ((1 + sumM Xr : Nat) : Int)) ∧ Only (blksC XM Xr) w12 w'))
      rw [XL.out] at h
      exact h
    have cP00 : w12.cell? ⟨w.heap.size, 0, none⟩ = some (.int .i64 hd0) := (P0_12.out).cell 0
    have cP01 : w12.cell? ⟨w.heap.size, 1, none⟩ = some (.int .i64 vr0) := (P0_12.out).cell 1
    have cP02 : w12.cell? ⟨w.heap.size, 2, none⟩ = some (.slice a0 l0.length cap0) := (P0_12.out).cell 2
    have cW00 : w12.cell? ⟨w5.heap.size, 0, none⟩ = some (.slice none 0 0) := (W0_12.out).cell 0
    have cW01 : w12.cell? ⟨w5.heap.size, 1, none⟩ = some (.int .i64 0) := (W0_12.out).cell 1
    have cW02 : w12.cell? ⟨w5.heap.size, 2, none⟩ = some (.int .i64 0) := (W0_12.out).cell 2
    have cW03 : w12.cell? ⟨w5.heap.size, 3, none⟩ = some (.string ByteArray.empty) := (W0_12.out).cell 3
    have cQ00 : w12.cell? ⟨w6.heap.size, 0, none⟩ = some (.int .i64 hd0) := (Q0_12.out).cell 0
    have cQ01 : w12.cell? ⟨w6.heap.size, 1, none⟩ = some (.int .i64 vr0) := (Q0_12.out).cell 1
    have cQ02 : w12.cell? ⟨w6.heap.size, 2, none⟩ = some (.slice (some ⟨XM, 0, none⟩) l0.length l0.length) := (Q0_12.out).cell 2
    have cG00 : w12.cell? ⟨w8.heap.size, 0, none⟩ = some (.slice none 0 0) := (G0_12.out).cell 0
    have cG01 : w12.cell? ⟨w8.heap.size, 1, none⟩ = some (.int .i64 0) := (G0_12.out).cell 1
    have cG02 : w12.cell? ⟨w8.heap.size, 2, none⟩ = some (.int .i64 0) := (G0_12.out).cell 2
    have cG03 : w12.cell? ⟨w8.heap.size, 3, none⟩ = some (.string ByteArray.empty) := (G0_12.out).cell 3
    go_wp2_with fail
    refine (hXM.out).mono ?_
    rintro e w13 ⟨rfl, ho⟩
    have B13 : Hid (Below w.heap.size w w13) := B12.out.trans (ho.low (fun k hk => by have hx := XR.out k hk; have hw := B5.out.size; omega) B12.out.size)
    have Z13 : Hid (w12.heap.size ≤ w13.heap.size) := ho.size
    have P0_13 : Hid (Blk w13 w.heap.size #[.int .i64 hd0, .int .i64 vr0, .slice a0 l0.length cap0] 24) := ho.blk P0_12.out (fun hs => by have hx := XR.out _ hs; have h0 := Z1.out; have h1 := Z2.out; have h2 := Z3.out; have h3 := Z4.out; have h4 := Z5.out; have h5 := Z6.out; have h6 := Z7.out; have h7 := Z8.out; have h8 := Z9.out; have h9 := Z10.out; have h10 := Z11.out; have h11 := Z12.out; have h12 := Z13.out; have h13 := U_P0.out; have h14 := U_S.out; have h15 := U_T.out; have h16 := U_W0.out; have h17 := U_Q0.out; have h18 := U_Y.out; have h19 := U_G0.out; have h20 := U_Z.out; omega)
    have W0_13 : Hid (Blk w13 w5.heap.size #[.slice none 0 0, .int .i64 0, .int .i64 0, .string ByteArray.empty] 38) := ho.blk W0_12.out (fun hs => by have hx := XR.out _ hs; have h0 := Z1.out; have h1 := Z2.out; have h2 := Z3.out; have h3 := Z4.out; have h4 := Z5.out; have h5 := Z6.out; have h6 := Z7.out; have h7 := Z8.out; have h8 := Z9.out; have h9 := Z10.out; have h10 := Z11.out; have h11 := Z12.out; have h12 := Z13.out; have h13 := U_P0.out; have h14 := U_S.out; have h15 := U_T.out; have h16 := U_W0.out; have h17 := U_Q0.out; have h18 := U_Y.out; have h19 := U_G0.out; have h20 := U_Z.out; omega)
    have Y_13 : Hid (Blk w13 (w6.heap.size + 1) Ycs 77) := ho.blk Y_12.out (fun hs => by have hx := XR.out _ hs; have h0 := Z1.out; have h1 := Z2.out; have h2 := Z3.out; have h3 := Z4.out; have h4 := Z5.out; have h5 := Z6.out; have h6 := Z7.out; have h7 := Z8.out; have h8 := Z9.out; have h9 := Z10.out; have h10 := Z11.out; have h11 := Z12.out; have h12 := Z13.out; have h13 := U_P0.out; have h14 := U_S.out; have h15 := U_T.out; have h16 := U_W0.out; have h17 := U_Q0.out; have h18 := U_Y.out; have h19 := U_G0.out; have h20 := U_Z.out; omega)
    have G0_13 : Hid (Blk w13 w8.heap.size #[.slice none 0 0, .int .i64 0, .int .i64 0, .string ByteArray.empty] 38) := ho.blk G0_12.out (fun hs => by have hx := XR.out _ hs; have h0 := Z1.out; have h1 := Z2.out; have h2 := Z3.out; have h3 := Z4.out; have h4 := Z5.out; have h5 := Z6.out; have h6 := Z7.out; have h7 := Z8.out; have h8 := Z9.out; have h9 := Z10.out; have h10 := Z11.out; have h11 := Z12.out; have h12 := Z13.out; have h13 := U_P0.out; have h14 := U_S.out; have h15 := U_T.out; have h16 := U_W0.out; have h17 := U_Q0.out; have h18 := U_Y.out; have h19 := U_G0.out; have h20 := U_Z.out; omega)
    clear ho cP00 cP01 cP02 cW00 cW01 cW02 cW03 cQ00 cQ01 cQ02 cG00 cG01 cG02 cG03
    have MX : Hid (1 ≤ 1 + sumM Xr ∧ 1 + sumM Xr ≤ 10000000) := by have := XS.out; exact ⟨by omega, by omega⟩
    generalize 1 + sumM Xr = m1 at MX ⊢
    have cP00 : w13.cell? ⟨w.heap.size, 0, none⟩ = some (.int .i64 hd0) := (P0_13.out).cell 0
    have cP01 : w13.cell? ⟨w.heap.size, 1, none⟩ = some (.int .i64 vr0) := (P0_13.out).cell 1
    have cP02 : w13.cell? ⟨w.heap.size, 2, none⟩ = some (.slice a0 l0.length cap0) := (P0_13.out).cell 2
    have cW00 : w13.cell? ⟨w5.heap.size, 0, none⟩ = some (.slice none 0 0) := (W0_13.out).cell 0
    have cW01 : w13.cell? ⟨w5.heap.size, 1, none⟩ = some (.int .i64 0) := (W0_13.out).cell 1
    have cW02 : w13.cell? ⟨w5.heap.size, 2, none⟩ = some (.int .i64 0) := (W0_13.out).cell 2
    have cW03 : w13.cell? ⟨w5.heap.size, 3, none⟩ = some (.string ByteArray.empty) := (W0_13.out).cell 3
    have cG00 : w13.cell? ⟨w8.heap.size, 0, none⟩ = some (.slice none 0 0) := (G0_13.out).cell 0
    have cG01 : w13.cell? ⟨w8.heap.size, 1, none⟩ = some (.int .i64 0) := (G0_13.out).cell 1
    have cG02 : w13.cell? ⟨w8.heap.size, 2, none⟩ = some (.int .i64 0) := (G0_13.out).cell 2
    have cG03 : w13.cell? ⟨w8.heap.size, 3, none⟩ = some (.string ByteArray.empty) := (G0_13.out).cell 3
    go_wp2_with fail
    refine ((Mark.mark_any (w6.heap.size + 1) l1.length l1.length m1 Ycs _ Y_13.out (by rw [Ys.out]; exact Nat.le_refl _) K1.out MX.out.1 MX.out.2).mono (fun e w' h => (⟨h.1, Only.apart (S := fun k => k = (w6.heap.size + 1)) h.2.2 rfl⟩ : e = .returned (.int .i64 ((m1 + 2 * l1.length : Nat) : Int)) ∧ Only (fun k => k = (w6.heap.size + 1)) w13 w'))).mono ?_
    rintro e w14 ⟨rfl, ho⟩
    have B14 : Hid (Below w.heap.size w w14) := B13.out.trans (ho.low (fun k hk => by have hk : k = (w6.heap.size + 1) := hk; have hw := B6.out.size; have h0 := Z1.out; have h1 := Z2.out; have h2 := Z3.out; have h3 := Z4.out; have h4 := Z5.out; have h5 := Z6.out; have h6 := Z7.out; have h7 := Z8.out; have h8 := Z9.out; have h9 := Z10.out; have h10 := Z11.out; have h11 := Z12.out; have h12 := Z13.out; have h13 := U_P0.out; have h14 := U_S.out; have h15 := U_T.out; have h16 := U_W0.out; have h17 := U_Q0.out; have h18 := U_Y.out; have h19 := U_G0.out; have h20 := U_Z.out; omega) B13.out.size)
    have Z14 : Hid (w13.heap.size ≤ w14.heap.size) := ho.size
    have P0_14 : Hid (Blk w14 w.heap.size #[.int .i64 hd0, .int .i64 vr0, .slice a0 l0.length cap0] 24) := ho.blk P0_13.out (fun hs => by have hs : _ = (w6.heap.size + 1) := hs; have h0 := Z1.out; have h1 := Z2.out; have h2 := Z3.out; have h3 := Z4.out; have h4 := Z5.out; have h5 := Z6.out; have h6 := Z7.out; have h7 := Z8.out; have h8 := Z9.out; have h9 := Z10.out; have h10 := Z11.out; have h11 := Z12.out; have h12 := Z13.out; have h13 := Z14.out; have h14 := U_P0.out; have h15 := U_S.out; have h16 := U_T.out; have h17 := U_W0.out; have h18 := U_Q0.out; have h19 := U_Y.out; have h20 := U_G0.out; have h21 := U_Z.out; omega)
    have W0_14 : Hid (Blk w14 w5.heap.size #[.slice none 0 0, .int .i64 0, .int .i64 0, .string ByteArray.empty] 38) := ho.blk W0_13.out (fun hs => by have hs : _ = (w6.heap.size + 1) := hs; have h0 := Z1.out; have h1 := Z2.out; have h2 := Z3.out; have h3 := Z4.out; have h4 := Z5.out; have h5 := Z6.out; have h6 := Z7.out; have h7 := Z8.out; have h8 := Z9.out; have h9 := Z10.out; have h10 := Z11.out; have h11 := Z12.out; have h12 := Z13.out; have h13 := Z14.out; have h14 := U_P0.out; have h15 := U_S.out; have h16 := U_T.out; have h17 := U_W0.out; have h18 := U_Q0.out; have h19 := U_Y.out; have h20 := U_G0.out; have h21 := U_Z.out; omega)
    have G0_14 : Hid (Blk w14 w8.heap.size #[.slice none 0 0, .int .i64 0, .int .i64 0, .string ByteArray.empty] 38) := ho.blk G0_13.out (fun hs => by have hs : _ = (w6.heap.size + 1) := hs; have h0 := Z1.out; have h1 := Z2.out; have h2 := Z3.out; have h3 := Z4.out; have h4 := Z5.out; have h5 := Z6.out; have h6 := Z7.out; have h7 := Z8.out; have h8 := Z9.out; have h9 := Z10.out; have h10 := Z11.out; have h11 := Z12.out; have h12 := Z13.out; have h13 := Z14.out; have h14 := U_P0.out; have h15 := U_S.out; have h16 := U_T.out; have h17 := U_W0.out; have h18 := U_Q0.out; have h19 := U_Y.out; have h20 := U_G0.out; have h21 := U_Z.out; omega)
    clear ho cP00 cP01 cP02 cW00 cW01 cW02 cW03 cG00 cG01 cG02 cG03
    have hq : ¬ ((m1 + 2 * l1.length : Nat) : Int) < 0 := by omega
    generalize m1 + 2 * l1.length = m2 at hq ⊢
    have eA : Alm.sameB [] 0 0 ByteArray.empty [] 0 0 ByteArray.empty = true := Alm.same_self _ _ _ _
    have cP00 : w14.cell? ⟨w.heap.size, 0, none⟩ = some (.int .i64 hd0) := (P0_14.out).cell 0
    have cP01 : w14.cell? ⟨w.heap.size, 1, none⟩ = some (.int .i64 vr0) := (P0_14.out).cell 1
    have cP02 : w14.cell? ⟨w.heap.size, 2, none⟩ = some (.slice a0 l0.length cap0) := (P0_14.out).cell 2
    have cW00 : w14.cell? ⟨w5.heap.size, 0, none⟩ = some (.slice none 0 0) := (W0_14.out).cell 0
    have cW01 : w14.cell? ⟨w5.heap.size, 1, none⟩ = some (.int .i64 0) := (W0_14.out).cell 1
    have cW02 : w14.cell? ⟨w5.heap.size, 2, none⟩ = some (.int .i64 0) := (W0_14.out).cell 2
    have cW03 : w14.cell? ⟨w5.heap.size, 3, none⟩ = some (.string ByteArray.empty) := (W0_14.out).cell 3
    have cG00 : w14.cell? ⟨w8.heap.size, 0, none⟩ = some (.slice none 0 0) := (G0_14.out).cell 0
    have cG01 : w14.cell? ⟨w8.heap.size, 1, none⟩ = some (.int .i64 0) := (G0_14.out).cell 1
    have cG02 : w14.cell? ⟨w8.heap.size, 2, none⟩ = some (.int .i64 0) := (G0_14.out).cell 2
    have cG03 : w14.cell? ⟨w8.heap.size, 3, none⟩ = some (.string ByteArray.empty) := (G0_14.out).cell 3
    go_wp2_with fail
    refine (Alm.eq_any none none 0 0 [] [] 0 0 0 0 ByteArray.empty ByteArray.empty _ (.inl rfl) (.inl rfl) (by simp) (by simp)).mono ?_
    rintro e w15 ⟨rfl, hb⟩
    have B15 : Hid (Below w.heap.size w w15) := grow_on B14.out hb
    have Z15 : Hid (w14.heap.size ≤ w15.heap.size) := hb.size
    have P0_15 : Hid (Blk w15 w.heap.size #[.int .i64 hd0, .int .i64 vr0, .slice a0 l0.length cap0] 24) := P0_14.out.grow hb
    have W0_15 : Hid (Blk w15 w5.heap.size #[.slice none 0 0, .int .i64 0, .int .i64 0, .string ByteArray.empty] 38) := W0_14.out.grow hb
    have G0_15 : Hid (Blk w15 w8.heap.size #[.slice none 0 0, .int .i64 0, .int .i64 0, .string ByteArray.empty] 38) := G0_14.out.grow hb
    clear hb cP00 cP01 cP02 cW00 cW01 cW02 cW03 cG00 cG01 cG02 cG03
    clear hq
    have cP00 : w15.cell? ⟨w.heap.size, 0, none⟩ = some (.int .i64 hd0) := (P0_15.out).cell 0
    have cP01 : w15.cell? ⟨w.heap.size, 1, none⟩ = some (.int .i64 vr0) := (P0_15.out).cell 1
    have cP02 : w15.cell? ⟨w.heap.size, 2, none⟩ = some (.slice a0 l0.length cap0) := (P0_15.out).cell 2
    have cW00 : w15.cell? ⟨w5.heap.size, 0, none⟩ = some (.slice none 0 0) := (W0_15.out).cell 0
    have cW01 : w15.cell? ⟨w5.heap.size, 1, none⟩ = some (.int .i64 0) := (W0_15.out).cell 1
    have cW02 : w15.cell? ⟨w5.heap.size, 2, none⟩ = some (.int .i64 0) := (W0_15.out).cell 2
    have cW03 : w15.cell? ⟨w5.heap.size, 3, none⟩ = some (.string ByteArray.empty) := (W0_15.out).cell 3
    have cG00 : w15.cell? ⟨w8.heap.size, 0, none⟩ = some (.slice none 0 0) := (G0_15.out).cell 0
    have cG01 : w15.cell? ⟨w8.heap.size, 1, none⟩ = some (.int .i64 0) := (G0_15.out).cell 1
    have cG02 : w15.cell? ⟨w8.heap.size, 2, none⟩ = some (.int .i64 0) := (G0_15.out).cell 2
    have cG03 : w15.cell? ⟨w8.heap.size, 3, none⟩ = some (.string ByteArray.empty) := (G0_15.out).cell 3
    go_wp2_with fail
    refine (markNil_any 1 0 0 ByteArray.empty _ (by omega)).mono ?_
    rintro e w16 ⟨rfl, hb⟩
    have B16 : Hid (Below w.heap.size w w16) := grow_on B15.out hb
    have Z16 : Hid (w15.heap.size ≤ w16.heap.size) := hb.size
    have P0_16 : Hid (Blk w16 w.heap.size #[.int .i64 hd0, .int .i64 vr0, .slice a0 l0.length cap0] 24) := P0_15.out.grow hb
    have W0_16 : Hid (Blk w16 w5.heap.size #[.slice none 0 0, .int .i64 0, .int .i64 0, .string ByteArray.empty] 38) := W0_15.out.grow hb
    have G0_16 : Hid (Blk w16 w8.heap.size #[.slice none 0 0, .int .i64 0, .int .i64 0, .string ByteArray.empty] 38) := G0_15.out.grow hb
    clear hb cP00 cP01 cP02 cW00 cW01 cW02 cW03 cG00 cG01 cG02 cG03
    have cP00 : w16.cell? ⟨w.heap.size, 0, none⟩ = some (.int .i64 hd0) := (P0_16.out).cell 0
    have cP01 : w16.cell? ⟨w.heap.size, 1, none⟩ = some (.int .i64 vr0) := (P0_16.out).cell 1
    have cP02 : w16.cell? ⟨w.heap.size, 2, none⟩ = some (.slice a0 l0.length cap0) := (P0_16.out).cell 2
    have cW00 : w16.cell? ⟨w5.heap.size, 0, none⟩ = some (.slice none 0 0) := (W0_16.out).cell 0
    have cW01 : w16.cell? ⟨w5.heap.size, 1, none⟩ = some (.int .i64 0) := (W0_16.out).cell 1
    have cW02 : w16.cell? ⟨w5.heap.size, 2, none⟩ = some (.int .i64 0) := (W0_16.out).cell 2
    have cW03 : w16.cell? ⟨w5.heap.size, 3, none⟩ = some (.string ByteArray.empty) := (W0_16.out).cell 3
    have cG00 : w16.cell? ⟨w8.heap.size, 0, none⟩ = some (.slice none 0 0) := (G0_16.out).cell 0
    have cG01 : w16.cell? ⟨w8.heap.size, 1, none⟩ = some (.int .i64 0) := (G0_16.out).cell 1
    have cG02 : w16.cell? ⟨w8.heap.size, 2, none⟩ = some (.int .i64 0) := (G0_16.out).cell 2
    have cG03 : w16.cell? ⟨w8.heap.size, 3, none⟩ = some (.string ByteArray.empty) := (G0_16.out).cell 3
    go_wp2_with fail
    refine (heldNil_any 1 0 0 ByteArray.empty _ (by omega)).mono ?_
    rintro e w17 ⟨rfl, hb⟩
    have B17 : Hid (Below w.heap.size w w17) := grow_on B16.out hb
    have Z17 : Hid (w16.heap.size ≤ w17.heap.size) := hb.size
    have P0_17 : Hid (Blk w17 w.heap.size #[.int .i64 hd0, .int .i64 vr0, .slice a0 l0.length cap0] 24) := P0_16.out.grow hb
    have W0_17 : Hid (Blk w17 w5.heap.size #[.slice none 0 0, .int .i64 0, .int .i64 0, .string ByteArray.empty] 38) := W0_16.out.grow hb
    have G0_17 : Hid (Blk w17 w8.heap.size #[.slice none 0 0, .int .i64 0, .int .i64 0, .string ByteArray.empty] 38) := G0_16.out.grow hb
    clear hb cP00 cP01 cP02 cW00 cW01 cW02 cW03 cG00 cG01 cG02 cG03
    have cP00 : w17.cell? ⟨w.heap.size, 0, none⟩ = some (.int .i64 hd0) := (P0_17.out).cell 0
    have cP01 : w17.cell? ⟨w.heap.size, 1, none⟩ = some (.int .i64 vr0) := (P0_17.out).cell 1
    have cP02 : w17.cell? ⟨w.heap.size, 2, none⟩ = some (.slice a0 l0.length cap0) := (P0_17.out).cell 2
    have cW00 : w17.cell? ⟨w5.heap.size, 0, none⟩ = some (.slice none 0 0) := (W0_17.out).cell 0
    have cW01 : w17.cell? ⟨w5.heap.size, 1, none⟩ = some (.int .i64 0) := (W0_17.out).cell 1
    have cW02 : w17.cell? ⟨w5.heap.size, 2, none⟩ = some (.int .i64 0) := (W0_17.out).cell 2
    have cW03 : w17.cell? ⟨w5.heap.size, 3, none⟩ = some (.string ByteArray.empty) := (W0_17.out).cell 3
    have cG00 : w17.cell? ⟨w8.heap.size, 0, none⟩ = some (.slice none 0 0) := (G0_17.out).cell 0
    have cG01 : w17.cell? ⟨w8.heap.size, 1, none⟩ = some (.int .i64 0) := (G0_17.out).cell 1
    have cG02 : w17.cell? ⟨w8.heap.size, 2, none⟩ = some (.int .i64 0) := (G0_17.out).cell 2
    have cG03 : w17.cell? ⟨w8.heap.size, 3, none⟩ = some (.string ByteArray.empty) := (G0_17.out).cell 3
    go_wp2_with fail
    refine (toPart_any hd0 vr0 a0 cap0 l0 _ (R0.out.below stays_rd B17.out) K0.out.1 K0.out.2.1).mono ?_
    rintro e w18 ⟨⟨CM, Cr, rfl, hA, hP⟩, hb⟩
    have C_18 : Hid (CB w17.heap.size w18 CM l0.length Cr) := hA.down (by first | exact Nat.le_refl _ | simp)
    have CP : Hid (chs Cr = l0) := hP
    have U_C : Hid (w17.heap.size ≤ CM ∧ CM < w18.heap.size) := ⟨C_18.out.at', C_18.out.lt⟩
    clear hA hP
    have B18 : Hid (Below w.heap.size w w18) := grow_on B17.out hb
    have Z18 : Hid (w17.heap.size ≤ w18.heap.size) := hb.size
    have P0_18 : Hid (Blk w18 w.heap.size #[.int .i64 hd0, .int .i64 vr0, .slice a0 l0.length cap0] 24) := P0_17.out.grow hb
    have W0_18 : Hid (Blk w18 w5.heap.size #[.slice none 0 0, .int .i64 0, .int .i64 0, .string ByteArray.empty] 38) := W0_17.out.grow hb
    have G0_18 : Hid (Blk w18 w8.heap.size #[.slice none 0 0, .int .i64 0, .int .i64 0, .string ByteArray.empty] 38) := G0_17.out.grow hb
    clear hb cP00 cP01 cP02 cW00 cW01 cW02 cW03 cG00 cG01 cG02 cG03
    have cP00 : w18.cell? ⟨w.heap.size, 0, none⟩ = some (.int .i64 hd0) := (P0_18.out).cell 0
    have cP01 : w18.cell? ⟨w.heap.size, 1, none⟩ = some (.int .i64 vr0) := (P0_18.out).cell 1
    have cP02 : w18.cell? ⟨w.heap.size, 2, none⟩ = some (.slice a0 l0.length cap0) := (P0_18.out).cell 2
    have cW00 : w18.cell? ⟨w5.heap.size, 0, none⟩ = some (.slice none 0 0) := (W0_18.out).cell 0
    have cW01 : w18.cell? ⟨w5.heap.size, 1, none⟩ = some (.int .i64 0) := (W0_18.out).cell 1
    have cW02 : w18.cell? ⟨w5.heap.size, 2, none⟩ = some (.int .i64 0) := (W0_18.out).cell 2
    have cW03 : w18.cell? ⟨w5.heap.size, 3, none⟩ = some (.string ByteArray.empty) := (W0_18.out).cell 3
    have cG00 : w18.cell? ⟨w8.heap.size, 0, none⟩ = some (.slice none 0 0) := (G0_18.out).cell 0
    have cG01 : w18.cell? ⟨w8.heap.size, 1, none⟩ = some (.int .i64 0) := (G0_18.out).cell 1
    have cG02 : w18.cell? ⟨w8.heap.size, 2, none⟩ = some (.int .i64 0) := (G0_18.out).cell 2
    have cG03 : w18.cell? ⟨w8.heap.size, 3, none⟩ = some (.string ByteArray.empty) := (G0_18.out).cell 3
    go_wp2_with fail
    refine (LabT.to_any a1 cap1 l1 _ (R1.out.below B18.out) K1.out).mono ?_
    rintro e w19 ⟨rfl, ⟨Dcs, hk, hs, hh⟩, hb⟩
    have D_19 : Hid (Blk w19 w18.heap.size Dcs 77) := (by first | exact hk | (have hk2 := hk; simp at hk2; exact hk2))
    have Ds : Hid (Dcs.size = l1.length * 2) := hs
    have Dh : Hid (LabT.Held Dcs l1 l1.length) := hh
    have U_D : Hid (w18.heap.size ≤ w18.heap.size ∧ w18.heap.size < w19.heap.size) := ⟨by omega, D_19.out.lt⟩
    clear hk hs hh
    have B19 : Hid (Below w.heap.size w w19) := grow_on B18.out hb
    have Z19 : Hid (w18.heap.size ≤ w19.heap.size) := hb.size
    have P0_19 : Hid (Blk w19 w.heap.size #[.int .i64 hd0, .int .i64 vr0, .slice a0 l0.length cap0] 24) := P0_18.out.grow hb
    have W0_19 : Hid (Blk w19 w5.heap.size #[.slice none 0 0, .int .i64 0, .int .i64 0, .string ByteArray.empty] 38) := W0_18.out.grow hb
    have G0_19 : Hid (Blk w19 w8.heap.size #[.slice none 0 0, .int .i64 0, .int .i64 0, .string ByteArray.empty] 38) := G0_18.out.grow hb
    have C_19 : Hid (CB w17.heap.size w19 CM l0.length Cr) := C_18.out.grow hb
    clear hb cP00 cP01 cP02 cW00 cW01 cW02 cW03 cG00 cG01 cG02 cG03
    have cP00 : w19.cell? ⟨w.heap.size, 0, none⟩ = some (.int .i64 hd0) := (P0_19.out).cell 0
    have cP01 : w19.cell? ⟨w.heap.size, 1, none⟩ = some (.int .i64 vr0) := (P0_19.out).cell 1
    have cP02 : w19.cell? ⟨w.heap.size, 2, none⟩ = some (.slice a0 l0.length cap0) := (P0_19.out).cell 2
    have cW00 : w19.cell? ⟨w5.heap.size, 0, none⟩ = some (.slice none 0 0) := (W0_19.out).cell 0
    have cW01 : w19.cell? ⟨w5.heap.size, 1, none⟩ = some (.int .i64 0) := (W0_19.out).cell 1
    have cW02 : w19.cell? ⟨w5.heap.size, 2, none⟩ = some (.int .i64 0) := (W0_19.out).cell 2
    have cW03 : w19.cell? ⟨w5.heap.size, 3, none⟩ = some (.string ByteArray.empty) := (W0_19.out).cell 3
    have cG00 : w19.cell? ⟨w8.heap.size, 0, none⟩ = some (.slice none 0 0) := (G0_19.out).cell 0
    have cG01 : w19.cell? ⟨w8.heap.size, 1, none⟩ = some (.int .i64 0) := (G0_19.out).cell 1
    have cG02 : w19.cell? ⟨w8.heap.size, 2, none⟩ = some (.int .i64 0) := (G0_19.out).cell 2
    have cG03 : w19.cell? ⟨w8.heap.size, 3, none⟩ = some (.string ByteArray.empty) := (G0_19.out).cell 3
    go_wp2_with fail
    refine (implFind_no hd0 vr0 _ _ _ _ l0 l1 _ (rdC C_19.out CP.out) (held_reads D_19.out Dh.out) K0.out.1 N0.out M1.out F1.out FB.out).mono ?_
    rintro e w20 ⟨rfl, hb⟩
    have B20 : Hid (Below w.heap.size w w20) := grow_on B19.out hb
    have Z20 : Hid (w19.heap.size ≤ w20.heap.size) := hb.size
    have P0_20 : Hid (Blk w20 w.heap.size #[.int .i64 hd0, .int .i64 vr0, .slice a0 l0.length cap0] 24) := P0_19.out.grow hb
    have W0_20 : Hid (Blk w20 w5.heap.size #[.slice none 0 0, .int .i64 0, .int .i64 0, .string ByteArray.empty] 38) := W0_19.out.grow hb
    have G0_20 : Hid (Blk w20 w8.heap.size #[.slice none 0 0, .int .i64 0, .int .i64 0, .string ByteArray.empty] 38) := G0_19.out.grow hb
    have C_20 : Hid (CB w17.heap.size w20 CM l0.length Cr) := C_19.out.grow hb
    have D_20 : Hid (Blk w20 w18.heap.size Dcs 77) := D_19.out.grow hb
    clear hb cP00 cP01 cP02 cW00 cW01 cW02 cW03 cG00 cG01 cG02 cG03
    have eA : Alm.sameB [] 0 0 ByteArray.empty [] 0 0 ByteArray.empty = true := Alm.same_self _ _ _ _
    have cP00 : (w20.alloc (.cells #[.slice none 0 0, .int .i64 0, .int .i64 0, .string ByteArray.empty] 38)).cell? ⟨w.heap.size, 0, none⟩ = some (.int .i64 hd0) := (P0_20.out.alloc _).cell 0
    have cP01 : (w20.alloc (.cells #[.slice none 0 0, .int .i64 0, .int .i64 0, .string ByteArray.empty] 38)).cell? ⟨w.heap.size, 1, none⟩ = some (.int .i64 vr0) := (P0_20.out.alloc _).cell 1
    have cP02 : (w20.alloc (.cells #[.slice none 0 0, .int .i64 0, .int .i64 0, .string ByteArray.empty] 38)).cell? ⟨w.heap.size, 2, none⟩ = some (.slice a0 l0.length cap0) := (P0_20.out.alloc _).cell 2
    have cW00 : (w20.alloc (.cells #[.slice none 0 0, .int .i64 0, .int .i64 0, .string ByteArray.empty] 38)).cell? ⟨w5.heap.size, 0, none⟩ = some (.slice none 0 0) := (W0_20.out.alloc _).cell 0
    have cW01 : (w20.alloc (.cells #[.slice none 0 0, .int .i64 0, .int .i64 0, .string ByteArray.empty] 38)).cell? ⟨w5.heap.size, 1, none⟩ = some (.int .i64 0) := (W0_20.out.alloc _).cell 1
    have cW02 : (w20.alloc (.cells #[.slice none 0 0, .int .i64 0, .int .i64 0, .string ByteArray.empty] 38)).cell? ⟨w5.heap.size, 2, none⟩ = some (.int .i64 0) := (W0_20.out.alloc _).cell 2
    have cW03 : (w20.alloc (.cells #[.slice none 0 0, .int .i64 0, .int .i64 0, .string ByteArray.empty] 38)).cell? ⟨w5.heap.size, 3, none⟩ = some (.string ByteArray.empty) := (W0_20.out.alloc _).cell 3
    have cG00 : (w20.alloc (.cells #[.slice none 0 0, .int .i64 0, .int .i64 0, .string ByteArray.empty] 38)).cell? ⟨w8.heap.size, 0, none⟩ = some (.slice none 0 0) := (G0_20.out.alloc _).cell 0
    have cG01 : (w20.alloc (.cells #[.slice none 0 0, .int .i64 0, .int .i64 0, .string ByteArray.empty] 38)).cell? ⟨w8.heap.size, 1, none⟩ = some (.int .i64 0) := (G0_20.out.alloc _).cell 1
    have cG02 : (w20.alloc (.cells #[.slice none 0 0, .int .i64 0, .int .i64 0, .string ByteArray.empty] 38)).cell? ⟨w8.heap.size, 2, none⟩ = some (.int .i64 0) := (G0_20.out.alloc _).cell 2
    have cG03 : (w20.alloc (.cells #[.slice none 0 0, .int .i64 0, .int .i64 0, .string ByteArray.empty] 38)).cell? ⟨w8.heap.size, 3, none⟩ = some (.string ByteArray.empty) := (G0_20.out.alloc _).cell 3
    go_wp2_with fail
    refine (Alm.eq_any none none 0 0 [] [] 0 0 0 0 ByteArray.empty ByteArray.empty _ (.inl rfl) (.inl rfl) (by simp) (by simp)).mono ?_
    rintro e w21 ⟨rfl, hb⟩
    have E0_21 : Hid (Blk w21 w20.heap.size #[.slice none 0 0, .int .i64 0, .int .i64 0, .string ByteArray.empty] 38) := (Blk.new _ _ _).grow hb
    have U_E0 : Hid (w20.heap.size ≤ w20.heap.size ∧ w20.heap.size < w21.heap.size) := ⟨Nat.le_refl _, E0_21.out.lt⟩
    replace hb := grow_on (Go.Joins.below_alloc1 w20 _) hb
    have B21 : Hid (Below w.heap.size w w21) := grow_on B20.out hb
    have Z21 : Hid (w20.heap.size ≤ w21.heap.size) := hb.size
    have P0_21 : Hid (Blk w21 w.heap.size #[.int .i64 hd0, .int .i64 vr0, .slice a0 l0.length cap0] 24) := P0_20.out.grow hb
    have W0_21 : Hid (Blk w21 w5.heap.size #[.slice none 0 0, .int .i64 0, .int .i64 0, .string ByteArray.empty] 38) := W0_20.out.grow hb
    have G0_21 : Hid (Blk w21 w8.heap.size #[.slice none 0 0, .int .i64 0, .int .i64 0, .string ByteArray.empty] 38) := G0_20.out.grow hb
    clear hb cP00 cP01 cP02 cW00 cW01 cW02 cW03 cG00 cG01 cG02 cG03
    have cP00 : w21.cell? ⟨w.heap.size, 0, none⟩ = some (.int .i64 hd0) := (P0_21.out).cell 0
    have cP01 : w21.cell? ⟨w.heap.size, 1, none⟩ = some (.int .i64 vr0) := (P0_21.out).cell 1
    have cP02 : w21.cell? ⟨w.heap.size, 2, none⟩ = some (.slice a0 l0.length cap0) := (P0_21.out).cell 2
    have cW00 : w21.cell? ⟨w5.heap.size, 0, none⟩ = some (.slice none 0 0) := (W0_21.out).cell 0
    have cW01 : w21.cell? ⟨w5.heap.size, 1, none⟩ = some (.int .i64 0) := (W0_21.out).cell 1
    have cW02 : w21.cell? ⟨w5.heap.size, 2, none⟩ = some (.int .i64 0) := (W0_21.out).cell 2
    have cW03 : w21.cell? ⟨w5.heap.size, 3, none⟩ = some (.string ByteArray.empty) := (W0_21.out).cell 3
    have cG00 : w21.cell? ⟨w8.heap.size, 0, none⟩ = some (.slice none 0 0) := (G0_21.out).cell 0
    have cG01 : w21.cell? ⟨w8.heap.size, 1, none⟩ = some (.int .i64 0) := (G0_21.out).cell 1
    have cG02 : w21.cell? ⟨w8.heap.size, 2, none⟩ = some (.int .i64 0) := (G0_21.out).cell 2
    have cG03 : w21.cell? ⟨w8.heap.size, 3, none⟩ = some (.string ByteArray.empty) := (G0_21.out).cell 3
    have cE00 : w21.cell? ⟨w20.heap.size, 0, none⟩ = some (.slice none 0 0) := (E0_21.out).cell 0
    have cE01 : w21.cell? ⟨w20.heap.size, 1, none⟩ = some (.int .i64 0) := (E0_21.out).cell 1
    have cE02 : w21.cell? ⟨w20.heap.size, 2, none⟩ = some (.int .i64 0) := (E0_21.out).cell 2
    have cE03 : w21.cell? ⟨w20.heap.size, 3, none⟩ = some (.string ByteArray.empty) := (E0_21.out).cell 3
    go_wp2_with fail
    refine (heldNil_any 1 0 0 ByteArray.empty _ (by omega)).mono ?_
    rintro e w22 ⟨rfl, hb⟩
    have B22 : Hid (Below w.heap.size w w22) := grow_on B21.out hb
    have Z22 : Hid (w21.heap.size ≤ w22.heap.size) := hb.size
    have P0_22 : Hid (Blk w22 w.heap.size #[.int .i64 hd0, .int .i64 vr0, .slice a0 l0.length cap0] 24) := P0_21.out.grow hb
    have W0_22 : Hid (Blk w22 w5.heap.size #[.slice none 0 0, .int .i64 0, .int .i64 0, .string ByteArray.empty] 38) := W0_21.out.grow hb
    have G0_22 : Hid (Blk w22 w8.heap.size #[.slice none 0 0, .int .i64 0, .int .i64 0, .string ByteArray.empty] 38) := G0_21.out.grow hb
    have E0_22 : Hid (Blk w22 w20.heap.size #[.slice none 0 0, .int .i64 0, .int .i64 0, .string ByteArray.empty] 38) := E0_21.out.grow hb
    clear hb cP00 cP01 cP02 cW00 cW01 cW02 cW03 cG00 cG01 cG02 cG03 cE00 cE01 cE02 cE03
    have cP00 : w22.cell? ⟨w.heap.size, 0, none⟩ = some (.int .i64 hd0) := (P0_22.out).cell 0
    have cP01 : w22.cell? ⟨w.heap.size, 1, none⟩ = some (.int .i64 vr0) := (P0_22.out).cell 1
    have cP02 : w22.cell? ⟨w.heap.size, 2, none⟩ = some (.slice a0 l0.length cap0) := (P0_22.out).cell 2
    have cW00 : w22.cell? ⟨w5.heap.size, 0, none⟩ = some (.slice none 0 0) := (W0_22.out).cell 0
    have cW01 : w22.cell? ⟨w5.heap.size, 1, none⟩ = some (.int .i64 0) := (W0_22.out).cell 1
    have cW02 : w22.cell? ⟨w5.heap.size, 2, none⟩ = some (.int .i64 0) := (W0_22.out).cell 2
    have cW03 : w22.cell? ⟨w5.heap.size, 3, none⟩ = some (.string ByteArray.empty) := (W0_22.out).cell 3
    have cG00 : w22.cell? ⟨w8.heap.size, 0, none⟩ = some (.slice none 0 0) := (G0_22.out).cell 0
    have cG01 : w22.cell? ⟨w8.heap.size, 1, none⟩ = some (.int .i64 0) := (G0_22.out).cell 1
    have cG02 : w22.cell? ⟨w8.heap.size, 2, none⟩ = some (.int .i64 0) := (G0_22.out).cell 2
    have cG03 : w22.cell? ⟨w8.heap.size, 3, none⟩ = some (.string ByteArray.empty) := (G0_22.out).cell 3
    have cE00 : w22.cell? ⟨w20.heap.size, 0, none⟩ = some (.slice none 0 0) := (E0_22.out).cell 0
    have cE01 : w22.cell? ⟨w20.heap.size, 1, none⟩ = some (.int .i64 0) := (E0_22.out).cell 1
    have cE02 : w22.cell? ⟨w20.heap.size, 2, none⟩ = some (.int .i64 0) := (E0_22.out).cell 2
    have cE03 : w22.cell? ⟨w20.heap.size, 3, none⟩ = some (.string ByteArray.empty) := (E0_22.out).cell 3
    go_wp2
    go_ret
    exact ⟨rfl, B22.out⟩
  · have FB : Hid (findB l0 l1 = some x) := hFB
    clear hFB
    have FX : Hid (FitA x ∧ x.l.length ≤ 1048576) := find_fit FB.out F0.out N0.out
    have cP00 : w2.cell? ⟨w.heap.size, 0, none⟩ = some (.int .i64 hd0) := (P0_2.out).cell 0
    have cP01 : w2.cell? ⟨w.heap.size, 1, none⟩ = some (.int .i64 vr0) := (P0_2.out).cell 1
    have cP02 : w2.cell? ⟨w.heap.size, 2, none⟩ = some (.slice a0 l0.length cap0) := (P0_2.out).cell 2
    go_wp2_with fail
    refine (toPart_any hd0 vr0 a0 cap0 l0 _ (R0.out.below stays_rd B2.out) K0.out.1 K0.out.2.1).mono ?_
    rintro e w3 ⟨⟨SM, Sr, rfl, hA, hP⟩, hb⟩
    have S_3 : Hid (CB w2.heap.size w3 SM l0.length Sr) := hA.down (by first | exact Nat.le_refl _ | simp)
    have SP : Hid (chs Sr = l0) := hP
    have U_S : Hid (w2.heap.size ≤ SM ∧ SM < w3.heap.size) := ⟨S_3.out.at', S_3.out.lt⟩
    clear hA hP
    have B3 : Hid (Below w.heap.size w w3) := grow_on B2.out hb
    have Z3 : Hid (w2.heap.size ≤ w3.heap.size) := hb.size
    have P0_3 : Hid (Blk w3 w.heap.size #[.int .i64 hd0, .int .i64 vr0, .slice a0 l0.length cap0] 24) := P0_2.out.grow hb
    clear hb cP00 cP01 cP02
    have cP00 : w3.cell? ⟨w.heap.size, 0, none⟩ = some (.int .i64 hd0) := (P0_3.out).cell 0
    have cP01 : w3.cell? ⟨w.heap.size, 1, none⟩ = some (.int .i64 vr0) := (P0_3.out).cell 1
    have cP02 : w3.cell? ⟨w.heap.size, 2, none⟩ = some (.slice a0 l0.length cap0) := (P0_3.out).cell 2
    go_wp2_with fail
    refine (LabT.to_any a1 cap1 l1 _ (R1.out.below B3.out) K1.out).mono ?_
    rintro e w4 ⟨rfl, ⟨Tcs, hk, hs, hh⟩, hb⟩
    have T_4 : Hid (Blk w4 w3.heap.size Tcs 77) := (by first | exact hk | (have hk2 := hk; simp at hk2; exact hk2))
    have Ts : Hid (Tcs.size = l1.length * 2) := hs
    have Th : Hid (LabT.Held Tcs l1 l1.length) := hh
    have U_T : Hid (w3.heap.size ≤ w3.heap.size ∧ w3.heap.size < w4.heap.size) := ⟨by omega, T_4.out.lt⟩
    clear hk hs hh
    have B4 : Hid (Below w.heap.size w w4) := grow_on B3.out hb
    have Z4 : Hid (w3.heap.size ≤ w4.heap.size) := hb.size
    have P0_4 : Hid (Blk w4 w.heap.size #[.int .i64 hd0, .int .i64 vr0, .slice a0 l0.length cap0] 24) := P0_3.out.grow hb
    have S_4 : Hid (CB w2.heap.size w4 SM l0.length Sr) := S_3.out.grow hb
    clear hb cP00 cP01 cP02
    have cP00 : w4.cell? ⟨w.heap.size, 0, none⟩ = some (.int .i64 hd0) := (P0_4.out).cell 0
    have cP01 : w4.cell? ⟨w.heap.size, 1, none⟩ = some (.int .i64 vr0) := (P0_4.out).cell 1
    have cP02 : w4.cell? ⟨w.heap.size, 2, none⟩ = some (.slice a0 l0.length cap0) := (P0_4.out).cell 2
    go_wp2_with fail
    refine (specFind_yes hd0 vr0 _ _ _ _ l0 l1 x _ (rnC S_4.out SP.out) (held_reads T_4.out Th.out) K0.out.1 N0.out M1.out F1.out FB.out).mono ?_
    rintro e w5 ⟨⟨WM, Wc, rfl, hO⟩, hb⟩
    obtain ⟨hO1, Wcs, hO2, hO3, hO4⟩ := hO
    have W_5 : Hid (Blk w5 WM Wcs 77) := hO2
    have Ws : Hid (x.l.length * 2 ≤ Wcs.size) := hO3
    have Wh : Hid (LabT.Held Wcs x.l x.l.length) := hO4
    have U_W : Hid (w4.heap.size ≤ WM ∧ WM < w5.heap.size) := ⟨Nat.le_trans (by first | exact Nat.le_refl _ | simp) hO1, hO2.lt⟩
    clear hO1 hO2 hO3 hO4
    have B5 : Hid (Below w.heap.size w w5) := grow_on B4.out hb
    have Z5 : Hid (w4.heap.size ≤ w5.heap.size) := hb.size
    have P0_5 : Hid (Blk w5 w.heap.size #[.int .i64 hd0, .int .i64 vr0, .slice a0 l0.length cap0] 24) := P0_4.out.grow hb
    have S_5 : Hid (CB w2.heap.size w5 SM l0.length Sr) := S_4.out.grow hb
    have T_5 : Hid (Blk w5 w3.heap.size Tcs 77) := T_4.out.grow hb
    clear hb cP00 cP01 cP02
    have cP00 : (w5.alloc (.cells #[.slice (some ⟨WM, 0, none⟩) x.l.length Wc, .int .i64 x.s, .int .i64 x.e, .string x.n] 38)).cell? ⟨w.heap.size, 0, none⟩ = some (.int .i64 hd0) := (P0_5.out.alloc _).cell 0
    have cP01 : (w5.alloc (.cells #[.slice (some ⟨WM, 0, none⟩) x.l.length Wc, .int .i64 x.s, .int .i64 x.e, .string x.n] 38)).cell? ⟨w.heap.size, 1, none⟩ = some (.int .i64 vr0) := (P0_5.out.alloc _).cell 1
    have cP02 : (w5.alloc (.cells #[.slice (some ⟨WM, 0, none⟩) x.l.length Wc, .int .i64 x.s, .int .i64 x.e, .string x.n] 38)).cell? ⟨w.heap.size, 2, none⟩ = some (.slice a0 l0.length cap0) := (P0_5.out.alloc _).cell 2
    go_wp2_with fail
    refine (toPart_any hd0 vr0 a0 cap0 l0 _ (R0.out.below stays_rd (grow_on B5.out (Go.Joins.below_alloc1 w5 _))) K0.out.1 K0.out.2.1).mono ?_
    rintro e w6 ⟨⟨XM, Xr, rfl, hA, hP⟩, hb⟩
    have X_6 : Hid (CB w5.heap.size w6 XM l0.length Xr) := hA.down (by simp)
    have XP : Hid (chs Xr = l0) := hP
    have XR : Hid (∀ k, blksC XM Xr k → w5.heap.size < k ∧ k < w6.heap.size) := fun k hk => by have := rngC hA k hk; simp at this; omega
    clear hA hP
    have W0_6 : Hid (Blk w6 w5.heap.size #[.slice (some ⟨WM, 0, none⟩) x.l.length Wc, .int .i64 x.s, .int .i64 x.e, .string x.n] 38) := (Blk.new _ _ _).grow hb
    have U_W0 : Hid (w5.heap.size ≤ w5.heap.size ∧ w5.heap.size < w6.heap.size) := ⟨Nat.le_refl _, W0_6.out.lt⟩
    replace hb := grow_on (Go.Joins.below_alloc1 w5 _) hb
    have B6 : Hid (Below w.heap.size w w6) := grow_on B5.out hb
    have Z6 : Hid (w5.heap.size ≤ w6.heap.size) := hb.size
    have P0_6 : Hid (Blk w6 w.heap.size #[.int .i64 hd0, .int .i64 vr0, .slice a0 l0.length cap0] 24) := P0_5.out.grow hb
    have W_6 : Hid (Blk w6 WM Wcs 77) := W_5.out.grow hb
    clear hb cP00 cP01 cP02
    have cP00 : (w6.alloc (.cells #[.int .i64 hd0, .int .i64 vr0, .slice (some ⟨XM, 0, none⟩) l0.length l0.length] 29)).cell? ⟨w.heap.size, 0, none⟩ = some (.int .i64 hd0) := (P0_6.out.alloc _).cell 0
    have cP01 : (w6.alloc (.cells #[.int .i64 hd0, .int .i64 vr0, .slice (some ⟨XM, 0, none⟩) l0.length l0.length] 29)).cell? ⟨w.heap.size, 1, none⟩ = some (.int .i64 vr0) := (P0_6.out.alloc _).cell 1
    have cP02 : (w6.alloc (.cells #[.int .i64 hd0, .int .i64 vr0, .slice (some ⟨XM, 0, none⟩) l0.length l0.length] 29)).cell? ⟨w.heap.size, 2, none⟩ = some (.slice a0 l0.length cap0) := (P0_6.out.alloc _).cell 2
    have cW00 : (w6.alloc (.cells #[.int .i64 hd0, .int .i64 vr0, .slice (some ⟨XM, 0, none⟩) l0.length l0.length] 29)).cell? ⟨w5.heap.size, 0, none⟩ = some (.slice (some ⟨WM, 0, none⟩) x.l.length Wc) := (W0_6.out.alloc _).cell 0
    have cW01 : (w6.alloc (.cells #[.int .i64 hd0, .int .i64 vr0, .slice (some ⟨XM, 0, none⟩) l0.length l0.length] 29)).cell? ⟨w5.heap.size, 1, none⟩ = some (.int .i64 x.s) := (W0_6.out.alloc _).cell 1
    have cW02 : (w6.alloc (.cells #[.int .i64 hd0, .int .i64 vr0, .slice (some ⟨XM, 0, none⟩) l0.length l0.length] 29)).cell? ⟨w5.heap.size, 2, none⟩ = some (.int .i64 x.e) := (W0_6.out.alloc _).cell 2
    have cW03 : (w6.alloc (.cells #[.int .i64 hd0, .int .i64 vr0, .slice (some ⟨XM, 0, none⟩) l0.length l0.length] 29)).cell? ⟨w5.heap.size, 3, none⟩ = some (.string x.n) := (W0_6.out.alloc _).cell 3
    go_wp2_with fail
    refine (LabT.to_any a1 cap1 l1 _ (R1.out.below (grow_on B6.out (Go.Joins.below_alloc1 w6 _))) K1.out).mono ?_
    rintro e w7 ⟨rfl, ⟨Ycs, hk, hs, hh⟩, hb⟩
    have Y_7 : Hid (Blk w7 (w6.heap.size + 1) Ycs 77) := (by first | exact hk | (have hk2 := hk; simp at hk2; exact hk2))
    have Ys : Hid (Ycs.size = l1.length * 2) := hs
    have Yh : Hid (LabT.Held Ycs l1 l1.length) := hh
    have U_Y : Hid (w6.heap.size ≤ (w6.heap.size + 1) ∧ (w6.heap.size + 1) < w7.heap.size) := ⟨by omega, Y_7.out.lt⟩
    clear hk hs hh
    have Q0_7 : Hid (Blk w7 w6.heap.size #[.int .i64 hd0, .int .i64 vr0, .slice (some ⟨XM, 0, none⟩) l0.length l0.length] 29) := (Blk.new _ _ _).grow hb
    have U_Q0 : Hid (w6.heap.size ≤ w6.heap.size ∧ w6.heap.size < w7.heap.size) := ⟨Nat.le_refl _, Q0_7.out.lt⟩
    replace hb := grow_on (Go.Joins.below_alloc1 w6 _) hb
    have B7 : Hid (Below w.heap.size w w7) := grow_on B6.out hb
    have Z7 : Hid (w6.heap.size ≤ w7.heap.size) := hb.size
    have P0_7 : Hid (Blk w7 w.heap.size #[.int .i64 hd0, .int .i64 vr0, .slice a0 l0.length cap0] 24) := P0_6.out.grow hb
    have W_7 : Hid (Blk w7 WM Wcs 77) := W_6.out.grow hb
    have W0_7 : Hid (Blk w7 w5.heap.size #[.slice (some ⟨WM, 0, none⟩) x.l.length Wc, .int .i64 x.s, .int .i64 x.e, .string x.n] 38) := W0_6.out.grow hb
    have X_7 : Hid (CB w5.heap.size w7 XM l0.length Xr) := X_6.out.grow hb
    clear hb cP00 cP01 cP02 cW00 cW01 cW02 cW03
    have cP00 : w7.cell? ⟨w.heap.size, 0, none⟩ = some (.int .i64 hd0) := (P0_7.out).cell 0
    have cP01 : w7.cell? ⟨w.heap.size, 1, none⟩ = some (.int .i64 vr0) := (P0_7.out).cell 1
    have cP02 : w7.cell? ⟨w.heap.size, 2, none⟩ = some (.slice a0 l0.length cap0) := (P0_7.out).cell 2
    have cW00 : w7.cell? ⟨w5.heap.size, 0, none⟩ = some (.slice (some ⟨WM, 0, none⟩) x.l.length Wc) := (W0_7.out).cell 0
    have cW01 : w7.cell? ⟨w5.heap.size, 1, none⟩ = some (.int .i64 x.s) := (W0_7.out).cell 1
    have cW02 : w7.cell? ⟨w5.heap.size, 2, none⟩ = some (.int .i64 x.e) := (W0_7.out).cell 2
    have cW03 : w7.cell? ⟨w5.heap.size, 3, none⟩ = some (.string x.n) := (W0_7.out).cell 3
    have cQ00 : w7.cell? ⟨w6.heap.size, 0, none⟩ = some (.int .i64 hd0) := (Q0_7.out).cell 0
    have cQ01 : w7.cell? ⟨w6.heap.size, 1, none⟩ = some (.int .i64 vr0) := (Q0_7.out).cell 1
    have cQ02 : w7.cell? ⟨w6.heap.size, 2, none⟩ = some (.slice (some ⟨XM, 0, none⟩) l0.length l0.length) := (Q0_7.out).cell 2
    go_wp2_with fail
    refine (implFind_yes hd0 vr0 _ _ _ _ l0 l1 x _ (rdC X_7.out XP.out) (held_reads Y_7.out Yh.out) K0.out.1 N0.out M1.out F1.out FB.out).mono ?_
    rintro e w8 ⟨⟨GM, Gc, rfl, hO⟩, hb⟩
    obtain ⟨hO1, Gcs, hO2, hO3, hO4⟩ := hO
    have G_8 : Hid (Blk w8 GM Gcs 77) := hO2
    have Gs : Hid (x.l.length * 2 ≤ Gcs.size) := hO3
    have Gh : Hid (LabT.Held Gcs x.l x.l.length) := hO4
    have U_G : Hid (w7.heap.size ≤ GM ∧ GM < w8.heap.size) := ⟨Nat.le_trans (by first | exact Nat.le_refl _ | simp) hO1, hO2.lt⟩
    clear hO1 hO2 hO3 hO4
    have B8 : Hid (Below w.heap.size w w8) := grow_on B7.out hb
    have Z8 : Hid (w7.heap.size ≤ w8.heap.size) := hb.size
    have P0_8 : Hid (Blk w8 w.heap.size #[.int .i64 hd0, .int .i64 vr0, .slice a0 l0.length cap0] 24) := P0_7.out.grow hb
    have W_8 : Hid (Blk w8 WM Wcs 77) := W_7.out.grow hb
    have W0_8 : Hid (Blk w8 w5.heap.size #[.slice (some ⟨WM, 0, none⟩) x.l.length Wc, .int .i64 x.s, .int .i64 x.e, .string x.n] 38) := W0_7.out.grow hb
    have X_8 : Hid (CB w5.heap.size w8 XM l0.length Xr) := X_7.out.grow hb
    have Q0_8 : Hid (Blk w8 w6.heap.size #[.int .i64 hd0, .int .i64 vr0, .slice (some ⟨XM, 0, none⟩) l0.length l0.length] 29) := Q0_7.out.grow hb
    have Y_8 : Hid (Blk w8 (w6.heap.size + 1) Ycs 77) := Y_7.out.grow hb
    clear hb cP00 cP01 cP02 cW00 cW01 cW02 cW03 cQ00 cQ01 cQ02
    have eA : Alm.sameB x.l x.s x.e x.n x.l x.s x.e x.n = true := Alm.same_self _ _ _ _
    have cP00 : (w8.alloc (.cells #[.slice (some ⟨GM, 0, none⟩) x.l.length Gc, .int .i64 x.s, .int .i64 x.e, .string x.n] 38)).cell? ⟨w.heap.size, 0, none⟩ = some (.int .i64 hd0) := (P0_8.out.alloc _).cell 0
    have cP01 : (w8.alloc (.cells #[.slice (some ⟨GM, 0, none⟩) x.l.length Gc, .int .i64 x.s, .int .i64 x.e, .string x.n] 38)).cell? ⟨w.heap.size, 1, none⟩ = some (.int .i64 vr0) := (P0_8.out.alloc _).cell 1
    have cP02 : (w8.alloc (.cells #[.slice (some ⟨GM, 0, none⟩) x.l.length Gc, .int .i64 x.s, .int .i64 x.e, .string x.n] 38)).cell? ⟨w.heap.size, 2, none⟩ = some (.slice a0 l0.length cap0) := (P0_8.out.alloc _).cell 2
    have cW00 : (w8.alloc (.cells #[.slice (some ⟨GM, 0, none⟩) x.l.length Gc, .int .i64 x.s, .int .i64 x.e, .string x.n] 38)).cell? ⟨w5.heap.size, 0, none⟩ = some (.slice (some ⟨WM, 0, none⟩) x.l.length Wc) := (W0_8.out.alloc _).cell 0
    have cW01 : (w8.alloc (.cells #[.slice (some ⟨GM, 0, none⟩) x.l.length Gc, .int .i64 x.s, .int .i64 x.e, .string x.n] 38)).cell? ⟨w5.heap.size, 1, none⟩ = some (.int .i64 x.s) := (W0_8.out.alloc _).cell 1
    have cW02 : (w8.alloc (.cells #[.slice (some ⟨GM, 0, none⟩) x.l.length Gc, .int .i64 x.s, .int .i64 x.e, .string x.n] 38)).cell? ⟨w5.heap.size, 2, none⟩ = some (.int .i64 x.e) := (W0_8.out.alloc _).cell 2
    have cW03 : (w8.alloc (.cells #[.slice (some ⟨GM, 0, none⟩) x.l.length Gc, .int .i64 x.s, .int .i64 x.e, .string x.n] 38)).cell? ⟨w5.heap.size, 3, none⟩ = some (.string x.n) := (W0_8.out.alloc _).cell 3
    have cQ00 : (w8.alloc (.cells #[.slice (some ⟨GM, 0, none⟩) x.l.length Gc, .int .i64 x.s, .int .i64 x.e, .string x.n] 38)).cell? ⟨w6.heap.size, 0, none⟩ = some (.int .i64 hd0) := (Q0_8.out.alloc _).cell 0
    have cQ01 : (w8.alloc (.cells #[.slice (some ⟨GM, 0, none⟩) x.l.length Gc, .int .i64 x.s, .int .i64 x.e, .string x.n] 38)).cell? ⟨w6.heap.size, 1, none⟩ = some (.int .i64 vr0) := (Q0_8.out.alloc _).cell 1
    have cQ02 : (w8.alloc (.cells #[.slice (some ⟨GM, 0, none⟩) x.l.length Gc, .int .i64 x.s, .int .i64 x.e, .string x.n] 38)).cell? ⟨w6.heap.size, 2, none⟩ = some (.slice (some ⟨XM, 0, none⟩) l0.length l0.length) := (Q0_8.out.alloc _).cell 2
    go_wp2_with fail
    refine (Alm.eq_any _ _ _ _ x.l x.l x.s x.e x.s x.e x.n x.n _ ((held_reads G_8.out Gh.out).below (Go.Joins.below_alloc1 w8 _)) ((held_reads W_8.out Wh.out).below (Go.Joins.below_alloc1 w8 _)) FX.out.1.len FX.out.1.len).mono ?_
    rintro e w9 ⟨rfl, hb⟩
    have G0_9 : Hid (Blk w9 w8.heap.size #[.slice (some ⟨GM, 0, none⟩) x.l.length Gc, .int .i64 x.s, .int .i64 x.e, .string x.n] 38) := (Blk.new _ _ _).grow hb
    have U_G0 : Hid (w8.heap.size ≤ w8.heap.size ∧ w8.heap.size < w9.heap.size) := ⟨Nat.le_refl _, G0_9.out.lt⟩
    replace hb := grow_on (Go.Joins.below_alloc1 w8 _) hb
    have B9 : Hid (Below w.heap.size w w9) := grow_on B8.out hb
    have Z9 : Hid (w8.heap.size ≤ w9.heap.size) := hb.size
    have P0_9 : Hid (Blk w9 w.heap.size #[.int .i64 hd0, .int .i64 vr0, .slice a0 l0.length cap0] 24) := P0_8.out.grow hb
    have W_9 : Hid (Blk w9 WM Wcs 77) := W_8.out.grow hb
    have W0_9 : Hid (Blk w9 w5.heap.size #[.slice (some ⟨WM, 0, none⟩) x.l.length Wc, .int .i64 x.s, .int .i64 x.e, .string x.n] 38) := W0_8.out.grow hb
    have X_9 : Hid (CB w5.heap.size w9 XM l0.length Xr) := X_8.out.grow hb
    have Q0_9 : Hid (Blk w9 w6.heap.size #[.int .i64 hd0, .int .i64 vr0, .slice (some ⟨XM, 0, none⟩) l0.length l0.length] 29) := Q0_8.out.grow hb
    have Y_9 : Hid (Blk w9 (w6.heap.size + 1) Ycs 77) := Y_8.out.grow hb
    have G_9 : Hid (Blk w9 GM Gcs 77) := G_8.out.grow hb
    clear hb cP00 cP01 cP02 cW00 cW01 cW02 cW03 cQ00 cQ01 cQ02
    have cP00 : w9.cell? ⟨w.heap.size, 0, none⟩ = some (.int .i64 hd0) := (P0_9.out).cell 0
    have cP01 : w9.cell? ⟨w.heap.size, 1, none⟩ = some (.int .i64 vr0) := (P0_9.out).cell 1
    have cP02 : w9.cell? ⟨w.heap.size, 2, none⟩ = some (.slice a0 l0.length cap0) := (P0_9.out).cell 2
    have cQ00 : w9.cell? ⟨w6.heap.size, 0, none⟩ = some (.int .i64 hd0) := (Q0_9.out).cell 0
    have cQ01 : w9.cell? ⟨w6.heap.size, 1, none⟩ = some (.int .i64 vr0) := (Q0_9.out).cell 1
    have cQ02 : w9.cell? ⟨w6.heap.size, 2, none⟩ = some (.slice (some ⟨XM, 0, none⟩) l0.length l0.length) := (Q0_9.out).cell 2
    go_wp2
    have kz : Below w9.heap.size w9 w9.drew := (Below.refl _ _).drew
    have kP0 := P0_9.out.lt
    have kQ0 := Q0_9.out.lt
    have HS : Hid (∀ w', Below w9.heap.size w9 w' → Below w9.heap.size w9 w' ∧ w'.cell? ⟨w.heap.size, 0, none⟩ = some (.int .i64 hd0) ∧ w'.cell? ⟨w.heap.size, 1, none⟩ = some (.int .i64 vr0) ∧ w'.cell? ⟨w.heap.size, 2, none⟩ = some (.slice a0 l0.length cap0) ∧ w'.cell? ⟨w6.heap.size, 0, none⟩ = some (.int .i64 hd0) ∧ w'.cell? ⟨w6.heap.size, 1, none⟩ = some (.int .i64 vr0) ∧ w'.cell? ⟨w6.heap.size, 2, none⟩ = some (.slice (some ⟨XM, 0, none⟩) l0.length l0.length)) := fun w' h => ⟨h, (h.cell kP0).trans cP00, (h.cell kP0).trans cP01, (h.cell kP0).trans cP02, (h.cell kQ0).trans cQ00, (h.cell kQ0).trans cQ01, (h.cell kQ0).trans cQ02⟩
    go_region_held3 (fun w' => Below w9.heap.size w9 w' ∧ w'.cell? ⟨w.heap.size, 0, none⟩ = some (.int .i64 hd0) ∧ w'.cell? ⟨w.heap.size, 1, none⟩ = some (.int .i64 vr0) ∧ w'.cell? ⟨w.heap.size, 2, none⟩ = some (.slice a0 l0.length cap0) ∧ w'.cell? ⟨w6.heap.size, 0, none⟩ = some (.int .i64 hd0) ∧ w'.cell? ⟨w6.heap.size, 1, none⟩ = some (.int .i64 vr0) ∧ w'.cell? ⟨w6.heap.size, 2, none⟩ = some (.slice (some ⟨XM, 0, none⟩) l0.length l0.length)) (first | with_reducible exact HS.out _ kz | with_reducible exact HS.out _ (grow_on kz hy0) | with_reducible exact HS.out _ (grow_on (grow_on kz hy0) hy1) | (go_keep; done)) (first | (go_at_call 10; with_reducible refine (toPart_any hd0 vr0 a0 cap0 l0 _ (R0.out.below stays_rd (grow_on B9.out kz)) K0.out.1 K0.out.2.1).mono ?_; rintro e wy ⟨⟨EM, Er, rfl, hA, hP⟩, hy0⟩) | (go_at_call 12; refine (eqPart_any hd0 vr0 _ _ _ _ l0 _ ((rdC X_9.out XP.out).below stays_rd (grow_on kz hy0)) (rdC hA hP) M0.out F0.out).mono ?_; rintro e w10 ⟨rfl, hy1⟩))
    have hb := (grow_on (grow_on kz hy0) hy1)
    have B10 : Hid (Below w.heap.size w w10) := grow_on B9.out hb
    have Z10 : Hid (w9.heap.size ≤ w10.heap.size) := hb.size
    have P0_10 : Hid (Blk w10 w.heap.size #[.int .i64 hd0, .int .i64 vr0, .slice a0 l0.length cap0] 24) := P0_9.out.grow hb
    have W_10 : Hid (Blk w10 WM Wcs 77) := W_9.out.grow hb
    have W0_10 : Hid (Blk w10 w5.heap.size #[.slice (some ⟨WM, 0, none⟩) x.l.length Wc, .int .i64 x.s, .int .i64 x.e, .string x.n] 38) := W0_9.out.grow hb
    have X_10 : Hid (CB w5.heap.size w10 XM l0.length Xr) := X_9.out.grow hb
    have Q0_10 : Hid (Blk w10 w6.heap.size #[.int .i64 hd0, .int .i64 vr0, .slice (some ⟨XM, 0, none⟩) l0.length l0.length] 29) := Q0_9.out.grow hb
    have Y_10 : Hid (Blk w10 (w6.heap.size + 1) Ycs 77) := Y_9.out.grow hb
    have G_10 : Hid (Blk w10 GM Gcs 77) := G_9.out.grow hb
    have G0_10 : Hid (Blk w10 w8.heap.size #[.slice (some ⟨GM, 0, none⟩) x.l.length Gc, .int .i64 x.s, .int .i64 x.e, .string x.n] 38) := G0_9.out.grow hb
    clear hb kz HS hy0 hy1 kP0 kQ0 cP00 cP01 cP02 cQ00 cQ01 cQ02 hA hP
    have cP00 : w10.cell? ⟨w.heap.size, 0, none⟩ = some (.int .i64 hd0) := (P0_10.out).cell 0
    have cP01 : w10.cell? ⟨w.heap.size, 1, none⟩ = some (.int .i64 vr0) := (P0_10.out).cell 1
    have cP02 : w10.cell? ⟨w.heap.size, 2, none⟩ = some (.slice a0 l0.length cap0) := (P0_10.out).cell 2
    have cW00 : w10.cell? ⟨w5.heap.size, 0, none⟩ = some (.slice (some ⟨WM, 0, none⟩) x.l.length Wc) := (W0_10.out).cell 0
    have cW01 : w10.cell? ⟨w5.heap.size, 1, none⟩ = some (.int .i64 x.s) := (W0_10.out).cell 1
    have cW02 : w10.cell? ⟨w5.heap.size, 2, none⟩ = some (.int .i64 x.e) := (W0_10.out).cell 2
    have cW03 : w10.cell? ⟨w5.heap.size, 3, none⟩ = some (.string x.n) := (W0_10.out).cell 3
    have cQ00 : w10.cell? ⟨w6.heap.size, 0, none⟩ = some (.int .i64 hd0) := (Q0_10.out).cell 0
    have cQ01 : w10.cell? ⟨w6.heap.size, 1, none⟩ = some (.int .i64 vr0) := (Q0_10.out).cell 1
    have cQ02 : w10.cell? ⟨w6.heap.size, 2, none⟩ = some (.slice (some ⟨XM, 0, none⟩) l0.length l0.length) := (Q0_10.out).cell 2
    have cG00 : w10.cell? ⟨w8.heap.size, 0, none⟩ = some (.slice (some ⟨GM, 0, none⟩) x.l.length Gc) := (G0_10.out).cell 0
    have cG01 : w10.cell? ⟨w8.heap.size, 1, none⟩ = some (.int .i64 x.s) := (G0_10.out).cell 1
    have cG02 : w10.cell? ⟨w8.heap.size, 2, none⟩ = some (.int .i64 x.e) := (G0_10.out).cell 2
    have cG03 : w10.cell? ⟨w8.heap.size, 3, none⟩ = some (.string x.n) := (G0_10.out).cell 3
    go_wp2_with fail
    refine (LabT.to_any a1 cap1 l1 _ (R1.out.below B10.out) K1.out).mono ?_
    rintro e w11 ⟨rfl, ⟨Zcs, hk, hs, hh⟩, hb⟩
    have Z_11 : Hid (Blk w11 w10.heap.size Zcs 77) := (by first | exact hk | (have hk2 := hk; simp at hk2; exact hk2))
    have Zs : Hid (Zcs.size = l1.length * 2) := hs
    have Zh : Hid (LabT.Held Zcs l1 l1.length) := hh
    have U_Z : Hid (w10.heap.size ≤ w10.heap.size ∧ w10.heap.size < w11.heap.size) := ⟨by omega, Z_11.out.lt⟩
    clear hk hs hh
    have B11 : Hid (Below w.heap.size w w11) := grow_on B10.out hb
    have Z11 : Hid (w10.heap.size ≤ w11.heap.size) := hb.size
    have P0_11 : Hid (Blk w11 w.heap.size #[.int .i64 hd0, .int .i64 vr0, .slice a0 l0.length cap0] 24) := P0_10.out.grow hb
    have W_11 : Hid (Blk w11 WM Wcs 77) := W_10.out.grow hb
    have W0_11 : Hid (Blk w11 w5.heap.size #[.slice (some ⟨WM, 0, none⟩) x.l.length Wc, .int .i64 x.s, .int .i64 x.e, .string x.n] 38) := W0_10.out.grow hb
    have X_11 : Hid (CB w5.heap.size w11 XM l0.length Xr) := X_10.out.grow hb
    have Q0_11 : Hid (Blk w11 w6.heap.size #[.int .i64 hd0, .int .i64 vr0, .slice (some ⟨XM, 0, none⟩) l0.length l0.length] 29) := Q0_10.out.grow hb
    have Y_11 : Hid (Blk w11 (w6.heap.size + 1) Ycs 77) := Y_10.out.grow hb
    have G_11 : Hid (Blk w11 GM Gcs 77) := G_10.out.grow hb
    have G0_11 : Hid (Blk w11 w8.heap.size #[.slice (some ⟨GM, 0, none⟩) x.l.length Gc, .int .i64 x.s, .int .i64 x.e, .string x.n] 38) := G0_10.out.grow hb
    clear hb cP00 cP01 cP02 cW00 cW01 cW02 cW03 cQ00 cQ01 cQ02 cG00 cG01 cG02 cG03
    have eL : decide (l1 = l1) = true := decide_eq_true rfl
    have cP00 : w11.cell? ⟨w.heap.size, 0, none⟩ = some (.int .i64 hd0) := (P0_11.out).cell 0
    have cP01 : w11.cell? ⟨w.heap.size, 1, none⟩ = some (.int .i64 vr0) := (P0_11.out).cell 1
    have cP02 : w11.cell? ⟨w.heap.size, 2, none⟩ = some (.slice a0 l0.length cap0) := (P0_11.out).cell 2
    have cW00 : w11.cell? ⟨w5.heap.size, 0, none⟩ = some (.slice (some ⟨WM, 0, none⟩) x.l.length Wc) := (W0_11.out).cell 0
    have cW01 : w11.cell? ⟨w5.heap.size, 1, none⟩ = some (.int .i64 x.s) := (W0_11.out).cell 1
    have cW02 : w11.cell? ⟨w5.heap.size, 2, none⟩ = some (.int .i64 x.e) := (W0_11.out).cell 2
    have cW03 : w11.cell? ⟨w5.heap.size, 3, none⟩ = some (.string x.n) := (W0_11.out).cell 3
    have cQ00 : w11.cell? ⟨w6.heap.size, 0, none⟩ = some (.int .i64 hd0) := (Q0_11.out).cell 0
    have cQ01 : w11.cell? ⟨w6.heap.size, 1, none⟩ = some (.int .i64 vr0) := (Q0_11.out).cell 1
    have cQ02 : w11.cell? ⟨w6.heap.size, 2, none⟩ = some (.slice (some ⟨XM, 0, none⟩) l0.length l0.length) := (Q0_11.out).cell 2
    have cG00 : w11.cell? ⟨w8.heap.size, 0, none⟩ = some (.slice (some ⟨GM, 0, none⟩) x.l.length Gc) := (G0_11.out).cell 0
    have cG01 : w11.cell? ⟨w8.heap.size, 1, none⟩ = some (.int .i64 x.s) := (G0_11.out).cell 1
    have cG02 : w11.cell? ⟨w8.heap.size, 2, none⟩ = some (.int .i64 x.e) := (G0_11.out).cell 2
    have cG03 : w11.cell? ⟨w8.heap.size, 3, none⟩ = some (.string x.n) := (G0_11.out).cell 3
    go_wp2_with fail
    refine (LabT.eq_any _ _ _ _ l1 l1 _ (held_reads Y_11.out Yh.out) (held_reads Z_11.out Zh.out) M1.out M1.out).mono ?_
    rintro e w12 ⟨rfl, hb⟩
    have B12 : Hid (Below w.heap.size w w12) := grow_on B11.out hb
    have Z12 : Hid (w11.heap.size ≤ w12.heap.size) := hb.size
    have P0_12 : Hid (Blk w12 w.heap.size #[.int .i64 hd0, .int .i64 vr0, .slice a0 l0.length cap0] 24) := P0_11.out.grow hb
    have W_12 : Hid (Blk w12 WM Wcs 77) := W_11.out.grow hb
    have W0_12 : Hid (Blk w12 w5.heap.size #[.slice (some ⟨WM, 0, none⟩) x.l.length Wc, .int .i64 x.s, .int .i64 x.e, .string x.n] 38) := W0_11.out.grow hb
    have X_12 : Hid (CB w5.heap.size w12 XM l0.length Xr) := X_11.out.grow hb
    have Q0_12 : Hid (Blk w12 w6.heap.size #[.int .i64 hd0, .int .i64 vr0, .slice (some ⟨XM, 0, none⟩) l0.length l0.length] 29) := Q0_11.out.grow hb
    have Y_12 : Hid (Blk w12 (w6.heap.size + 1) Ycs 77) := Y_11.out.grow hb
    have G_12 : Hid (Blk w12 GM Gcs 77) := G_11.out.grow hb
    have G0_12 : Hid (Blk w12 w8.heap.size #[.slice (some ⟨GM, 0, none⟩) x.l.length Gc, .int .i64 x.s, .int .i64 x.e, .string x.n] 38) := G0_11.out.grow hb
    have Z_12 : Hid (Blk w12 w10.heap.size Zcs 77) := Z_11.out.grow hb
    clear hb cP00 cP01 cP02 cW00 cW01 cW02 cW03 cQ00 cQ01 cQ02 cG00 cG01 cG02 cG03
    have XL : Hid (Xr.length = l0.length) := lenc_of XP.out
    have XS : Hid (1 + sumM Xr ≤ 8000000) := marksC XP.out (by have := K0.out; omega) (by have := K0.out; omega)
    have hXM : Hid (Calls Try.prog 21 #[.agg #[.int .i64 hd0, .int .i64 vr0, .slice (some ⟨XM, 0, none⟩) l0.length l0.length], .int .i64 1] w12 fun e w' => e = .returned (.int .i64 ((1 + sumM Xr : Nat) : Int)) ∧ Only (blksC XM Xr) w12 w') := by
      have h := (PrtM.markPart_any hd0 vr0 XM l0.length 1 _ l0.length Xr w12 X_12.out (by rw [XL.out]; have := K0.out.1; omega) (fun x hx => (rowC_len X_12.out XP.out (by have := K0.out; omega) x hx).1) (by omega) (by have := XS.out; omega)).mono (fun e w' h => (⟨h.1, h.2.2⟩ : e = .returned (.int .i64 ((1 + sumM Xr : Nat) : Int)) ∧ Only (blksC XM Xr) w12 w'))
      rw [XL.out] at h
      exact h
    have cP00 : w12.cell? ⟨w.heap.size, 0, none⟩ = some (.int .i64 hd0) := (P0_12.out).cell 0
    have cP01 : w12.cell? ⟨w.heap.size, 1, none⟩ = some (.int .i64 vr0) := (P0_12.out).cell 1
    have cP02 : w12.cell? ⟨w.heap.size, 2, none⟩ = some (.slice a0 l0.length cap0) := (P0_12.out).cell 2
    have cW00 : w12.cell? ⟨w5.heap.size, 0, none⟩ = some (.slice (some ⟨WM, 0, none⟩) x.l.length Wc) := (W0_12.out).cell 0
    have cW01 : w12.cell? ⟨w5.heap.size, 1, none⟩ = some (.int .i64 x.s) := (W0_12.out).cell 1
    have cW02 : w12.cell? ⟨w5.heap.size, 2, none⟩ = some (.int .i64 x.e) := (W0_12.out).cell 2
    have cW03 : w12.cell? ⟨w5.heap.size, 3, none⟩ = some (.string x.n) := (W0_12.out).cell 3
    have cQ00 : w12.cell? ⟨w6.heap.size, 0, none⟩ = some (.int .i64 hd0) := (Q0_12.out).cell 0
    have cQ01 : w12.cell? ⟨w6.heap.size, 1, none⟩ = some (.int .i64 vr0) := (Q0_12.out).cell 1
    have cQ02 : w12.cell? ⟨w6.heap.size, 2, none⟩ = some (.slice (some ⟨XM, 0, none⟩) l0.length l0.length) := (Q0_12.out).cell 2
    have cG00 : w12.cell? ⟨w8.heap.size, 0, none⟩ = some (.slice (some ⟨GM, 0, none⟩) x.l.length Gc) := (G0_12.out).cell 0
    have cG01 : w12.cell? ⟨w8.heap.size, 1, none⟩ = some (.int .i64 x.s) := (G0_12.out).cell 1
    have cG02 : w12.cell? ⟨w8.heap.size, 2, none⟩ = some (.int .i64 x.e) := (G0_12.out).cell 2
    have cG03 : w12.cell? ⟨w8.heap.size, 3, none⟩ = some (.string x.n) := (G0_12.out).cell 3
    go_wp2_with fail
    refine (hXM.out).mono ?_
    rintro e w13 ⟨rfl, ho⟩
    have B13 : Hid (Below w.heap.size w w13) := B12.out.trans (ho.low (fun k hk => by have hx := XR.out k hk; have hw := B5.out.size; omega) B12.out.size)
    have Z13 : Hid (w12.heap.size ≤ w13.heap.size) := ho.size
    have P0_13 : Hid (Blk w13 w.heap.size #[.int .i64 hd0, .int .i64 vr0, .slice a0 l0.length cap0] 24) := ho.blk P0_12.out (fun hs => by have hx := XR.out _ hs; have h0 := Z1.out; have h1 := Z2.out; have h2 := Z3.out; have h3 := Z4.out; have h4 := Z5.out; have h5 := Z6.out; have h6 := Z7.out; have h7 := Z8.out; have h8 := Z9.out; have h9 := Z10.out; have h10 := Z11.out; have h11 := Z12.out; have h12 := Z13.out; have h13 := U_P0.out; have h14 := U_S.out; have h15 := U_T.out; have h16 := U_W.out; have h17 := U_W0.out; have h18 := U_Q0.out; have h19 := U_Y.out; have h20 := U_G.out; have h21 := U_G0.out; have h22 := U_Z.out; omega)
    have W_13 : Hid (Blk w13 WM Wcs 77) := ho.blk W_12.out (fun hs => by have hx := XR.out _ hs; have h0 := Z1.out; have h1 := Z2.out; have h2 := Z3.out; have h3 := Z4.out; have h4 := Z5.out; have h5 := Z6.out; have h6 := Z7.out; have h7 := Z8.out; have h8 := Z9.out; have h9 := Z10.out; have h10 := Z11.out; have h11 := Z12.out; have h12 := Z13.out; have h13 := U_P0.out; have h14 := U_S.out; have h15 := U_T.out; have h16 := U_W.out; have h17 := U_W0.out; have h18 := U_Q0.out; have h19 := U_Y.out; have h20 := U_G.out; have h21 := U_G0.out; have h22 := U_Z.out; omega)
    have W0_13 : Hid (Blk w13 w5.heap.size #[.slice (some ⟨WM, 0, none⟩) x.l.length Wc, .int .i64 x.s, .int .i64 x.e, .string x.n] 38) := ho.blk W0_12.out (fun hs => by have hx := XR.out _ hs; have h0 := Z1.out; have h1 := Z2.out; have h2 := Z3.out; have h3 := Z4.out; have h4 := Z5.out; have h5 := Z6.out; have h6 := Z7.out; have h7 := Z8.out; have h8 := Z9.out; have h9 := Z10.out; have h10 := Z11.out; have h11 := Z12.out; have h12 := Z13.out; have h13 := U_P0.out; have h14 := U_S.out; have h15 := U_T.out; have h16 := U_W.out; have h17 := U_W0.out; have h18 := U_Q0.out; have h19 := U_Y.out; have h20 := U_G.out; have h21 := U_G0.out; have h22 := U_Z.out; omega)
    have Y_13 : Hid (Blk w13 (w6.heap.size + 1) Ycs 77) := ho.blk Y_12.out (fun hs => by have hx := XR.out _ hs; have h0 := Z1.out; have h1 := Z2.out; have h2 := Z3.out; have h3 := Z4.out; have h4 := Z5.out; have h5 := Z6.out; have h6 := Z7.out; have h7 := Z8.out; have h8 := Z9.out; have h9 := Z10.out; have h10 := Z11.out; have h11 := Z12.out; have h12 := Z13.out; have h13 := U_P0.out; have h14 := U_S.out; have h15 := U_T.out; have h16 := U_W.out; have h17 := U_W0.out; have h18 := U_Q0.out; have h19 := U_Y.out; have h20 := U_G.out; have h21 := U_G0.out; have h22 := U_Z.out; omega)
    have G_13 : Hid (Blk w13 GM Gcs 77) := ho.blk G_12.out (fun hs => by have hx := XR.out _ hs; have h0 := Z1.out; have h1 := Z2.out; have h2 := Z3.out; have h3 := Z4.out; have h4 := Z5.out; have h5 := Z6.out; have h6 := Z7.out; have h7 := Z8.out; have h8 := Z9.out; have h9 := Z10.out; have h10 := Z11.out; have h11 := Z12.out; have h12 := Z13.out; have h13 := U_P0.out; have h14 := U_S.out; have h15 := U_T.out; have h16 := U_W.out; have h17 := U_W0.out; have h18 := U_Q0.out; have h19 := U_Y.out; have h20 := U_G.out; have h21 := U_G0.out; have h22 := U_Z.out; omega)
    have G0_13 : Hid (Blk w13 w8.heap.size #[.slice (some ⟨GM, 0, none⟩) x.l.length Gc, .int .i64 x.s, .int .i64 x.e, .string x.n] 38) := ho.blk G0_12.out (fun hs => by have hx := XR.out _ hs; have h0 := Z1.out; have h1 := Z2.out; have h2 := Z3.out; have h3 := Z4.out; have h4 := Z5.out; have h5 := Z6.out; have h6 := Z7.out; have h7 := Z8.out; have h8 := Z9.out; have h9 := Z10.out; have h10 := Z11.out; have h11 := Z12.out; have h12 := Z13.out; have h13 := U_P0.out; have h14 := U_S.out; have h15 := U_T.out; have h16 := U_W.out; have h17 := U_W0.out; have h18 := U_Q0.out; have h19 := U_Y.out; have h20 := U_G.out; have h21 := U_G0.out; have h22 := U_Z.out; omega)
    clear ho cP00 cP01 cP02 cW00 cW01 cW02 cW03 cQ00 cQ01 cQ02 cG00 cG01 cG02 cG03
    have MX : Hid (1 ≤ 1 + sumM Xr ∧ 1 + sumM Xr ≤ 10000000) := by have := XS.out; exact ⟨by omega, by omega⟩
    generalize 1 + sumM Xr = m1 at MX ⊢
    have cP00 : w13.cell? ⟨w.heap.size, 0, none⟩ = some (.int .i64 hd0) := (P0_13.out).cell 0
    have cP01 : w13.cell? ⟨w.heap.size, 1, none⟩ = some (.int .i64 vr0) := (P0_13.out).cell 1
    have cP02 : w13.cell? ⟨w.heap.size, 2, none⟩ = some (.slice a0 l0.length cap0) := (P0_13.out).cell 2
    have cW00 : w13.cell? ⟨w5.heap.size, 0, none⟩ = some (.slice (some ⟨WM, 0, none⟩) x.l.length Wc) := (W0_13.out).cell 0
    have cW01 : w13.cell? ⟨w5.heap.size, 1, none⟩ = some (.int .i64 x.s) := (W0_13.out).cell 1
    have cW02 : w13.cell? ⟨w5.heap.size, 2, none⟩ = some (.int .i64 x.e) := (W0_13.out).cell 2
    have cW03 : w13.cell? ⟨w5.heap.size, 3, none⟩ = some (.string x.n) := (W0_13.out).cell 3
    have cG00 : w13.cell? ⟨w8.heap.size, 0, none⟩ = some (.slice (some ⟨GM, 0, none⟩) x.l.length Gc) := (G0_13.out).cell 0
    have cG01 : w13.cell? ⟨w8.heap.size, 1, none⟩ = some (.int .i64 x.s) := (G0_13.out).cell 1
    have cG02 : w13.cell? ⟨w8.heap.size, 2, none⟩ = some (.int .i64 x.e) := (G0_13.out).cell 2
    have cG03 : w13.cell? ⟨w8.heap.size, 3, none⟩ = some (.string x.n) := (G0_13.out).cell 3
    go_wp2_with fail
    refine ((Mark.mark_any (w6.heap.size + 1) l1.length l1.length m1 Ycs _ Y_13.out (by rw [Ys.out]; exact Nat.le_refl _) K1.out MX.out.1 MX.out.2).mono (fun e w' h => (⟨h.1, Only.apart (S := fun k => k = (w6.heap.size + 1)) h.2.2 rfl⟩ : e = .returned (.int .i64 ((m1 + 2 * l1.length : Nat) : Int)) ∧ Only (fun k => k = (w6.heap.size + 1)) w13 w'))).mono ?_
    rintro e w14 ⟨rfl, ho⟩
    have B14 : Hid (Below w.heap.size w w14) := B13.out.trans (ho.low (fun k hk => by have hk : k = (w6.heap.size + 1) := hk; have hw := B6.out.size; have h0 := Z1.out; have h1 := Z2.out; have h2 := Z3.out; have h3 := Z4.out; have h4 := Z5.out; have h5 := Z6.out; have h6 := Z7.out; have h7 := Z8.out; have h8 := Z9.out; have h9 := Z10.out; have h10 := Z11.out; have h11 := Z12.out; have h12 := Z13.out; have h13 := U_P0.out; have h14 := U_S.out; have h15 := U_T.out; have h16 := U_W.out; have h17 := U_W0.out; have h18 := U_Q0.out; have h19 := U_Y.out; have h20 := U_G.out; have h21 := U_G0.out; have h22 := U_Z.out; omega) B13.out.size)
    have Z14 : Hid (w13.heap.size ≤ w14.heap.size) := ho.size
    have P0_14 : Hid (Blk w14 w.heap.size #[.int .i64 hd0, .int .i64 vr0, .slice a0 l0.length cap0] 24) := ho.blk P0_13.out (fun hs => by have hs : _ = (w6.heap.size + 1) := hs; have h0 := Z1.out; have h1 := Z2.out; have h2 := Z3.out; have h3 := Z4.out; have h4 := Z5.out; have h5 := Z6.out; have h6 := Z7.out; have h7 := Z8.out; have h8 := Z9.out; have h9 := Z10.out; have h10 := Z11.out; have h11 := Z12.out; have h12 := Z13.out; have h13 := Z14.out; have h14 := U_P0.out; have h15 := U_S.out; have h16 := U_T.out; have h17 := U_W.out; have h18 := U_W0.out; have h19 := U_Q0.out; have h20 := U_Y.out; have h21 := U_G.out; have h22 := U_G0.out; have h23 := U_Z.out; omega)
    have W_14 : Hid (Blk w14 WM Wcs 77) := ho.blk W_13.out (fun hs => by have hs : _ = (w6.heap.size + 1) := hs; have h0 := Z1.out; have h1 := Z2.out; have h2 := Z3.out; have h3 := Z4.out; have h4 := Z5.out; have h5 := Z6.out; have h6 := Z7.out; have h7 := Z8.out; have h8 := Z9.out; have h9 := Z10.out; have h10 := Z11.out; have h11 := Z12.out; have h12 := Z13.out; have h13 := Z14.out; have h14 := U_P0.out; have h15 := U_S.out; have h16 := U_T.out; have h17 := U_W.out; have h18 := U_W0.out; have h19 := U_Q0.out; have h20 := U_Y.out; have h21 := U_G.out; have h22 := U_G0.out; have h23 := U_Z.out; omega)
    have W0_14 : Hid (Blk w14 w5.heap.size #[.slice (some ⟨WM, 0, none⟩) x.l.length Wc, .int .i64 x.s, .int .i64 x.e, .string x.n] 38) := ho.blk W0_13.out (fun hs => by have hs : _ = (w6.heap.size + 1) := hs; have h0 := Z1.out; have h1 := Z2.out; have h2 := Z3.out; have h3 := Z4.out; have h4 := Z5.out; have h5 := Z6.out; have h6 := Z7.out; have h7 := Z8.out; have h8 := Z9.out; have h9 := Z10.out; have h10 := Z11.out; have h11 := Z12.out; have h12 := Z13.out; have h13 := Z14.out; have h14 := U_P0.out; have h15 := U_S.out; have h16 := U_T.out; have h17 := U_W.out; have h18 := U_W0.out; have h19 := U_Q0.out; have h20 := U_Y.out; have h21 := U_G.out; have h22 := U_G0.out; have h23 := U_Z.out; omega)
    have G_14 : Hid (Blk w14 GM Gcs 77) := ho.blk G_13.out (fun hs => by have hs : _ = (w6.heap.size + 1) := hs; have h0 := Z1.out; have h1 := Z2.out; have h2 := Z3.out; have h3 := Z4.out; have h4 := Z5.out; have h5 := Z6.out; have h6 := Z7.out; have h7 := Z8.out; have h8 := Z9.out; have h9 := Z10.out; have h10 := Z11.out; have h11 := Z12.out; have h12 := Z13.out; have h13 := Z14.out; have h14 := U_P0.out; have h15 := U_S.out; have h16 := U_T.out; have h17 := U_W.out; have h18 := U_W0.out; have h19 := U_Q0.out; have h20 := U_Y.out; have h21 := U_G.out; have h22 := U_G0.out; have h23 := U_Z.out; omega)
    have G0_14 : Hid (Blk w14 w8.heap.size #[.slice (some ⟨GM, 0, none⟩) x.l.length Gc, .int .i64 x.s, .int .i64 x.e, .string x.n] 38) := ho.blk G0_13.out (fun hs => by have hs : _ = (w6.heap.size + 1) := hs; have h0 := Z1.out; have h1 := Z2.out; have h2 := Z3.out; have h3 := Z4.out; have h4 := Z5.out; have h5 := Z6.out; have h6 := Z7.out; have h7 := Z8.out; have h8 := Z9.out; have h9 := Z10.out; have h10 := Z11.out; have h11 := Z12.out; have h12 := Z13.out; have h13 := Z14.out; have h14 := U_P0.out; have h15 := U_S.out; have h16 := U_T.out; have h17 := U_W.out; have h18 := U_W0.out; have h19 := U_Q0.out; have h20 := U_Y.out; have h21 := U_G.out; have h22 := U_G0.out; have h23 := U_Z.out; omega)
    clear ho cP00 cP01 cP02 cW00 cW01 cW02 cW03 cG00 cG01 cG02 cG03
    have hq : ¬ ((m1 + 2 * l1.length : Nat) : Int) < 0 := by omega
    generalize m1 + 2 * l1.length = m2 at hq ⊢
    have eA : Alm.sameB x.l x.s x.e x.n x.l x.s x.e x.n = true := Alm.same_self _ _ _ _
    have cP00 : w14.cell? ⟨w.heap.size, 0, none⟩ = some (.int .i64 hd0) := (P0_14.out).cell 0
    have cP01 : w14.cell? ⟨w.heap.size, 1, none⟩ = some (.int .i64 vr0) := (P0_14.out).cell 1
    have cP02 : w14.cell? ⟨w.heap.size, 2, none⟩ = some (.slice a0 l0.length cap0) := (P0_14.out).cell 2
    have cW00 : w14.cell? ⟨w5.heap.size, 0, none⟩ = some (.slice (some ⟨WM, 0, none⟩) x.l.length Wc) := (W0_14.out).cell 0
    have cW01 : w14.cell? ⟨w5.heap.size, 1, none⟩ = some (.int .i64 x.s) := (W0_14.out).cell 1
    have cW02 : w14.cell? ⟨w5.heap.size, 2, none⟩ = some (.int .i64 x.e) := (W0_14.out).cell 2
    have cW03 : w14.cell? ⟨w5.heap.size, 3, none⟩ = some (.string x.n) := (W0_14.out).cell 3
    have cG00 : w14.cell? ⟨w8.heap.size, 0, none⟩ = some (.slice (some ⟨GM, 0, none⟩) x.l.length Gc) := (G0_14.out).cell 0
    have cG01 : w14.cell? ⟨w8.heap.size, 1, none⟩ = some (.int .i64 x.s) := (G0_14.out).cell 1
    have cG02 : w14.cell? ⟨w8.heap.size, 2, none⟩ = some (.int .i64 x.e) := (G0_14.out).cell 2
    have cG03 : w14.cell? ⟨w8.heap.size, 3, none⟩ = some (.string x.n) := (G0_14.out).cell 3
    go_wp2_with fail
    refine (Alm.eq_any _ _ _ _ x.l x.l x.s x.e x.s x.e x.n x.n _ ((held_reads G_14.out Gh.out)) ((held_reads W_14.out Wh.out)) FX.out.1.len FX.out.1.len).mono ?_
    rintro e w15 ⟨rfl, hb⟩
    have B15 : Hid (Below w.heap.size w w15) := grow_on B14.out hb
    have Z15 : Hid (w14.heap.size ≤ w15.heap.size) := hb.size
    have P0_15 : Hid (Blk w15 w.heap.size #[.int .i64 hd0, .int .i64 vr0, .slice a0 l0.length cap0] 24) := P0_14.out.grow hb
    have W_15 : Hid (Blk w15 WM Wcs 77) := W_14.out.grow hb
    have W0_15 : Hid (Blk w15 w5.heap.size #[.slice (some ⟨WM, 0, none⟩) x.l.length Wc, .int .i64 x.s, .int .i64 x.e, .string x.n] 38) := W0_14.out.grow hb
    have G_15 : Hid (Blk w15 GM Gcs 77) := G_14.out.grow hb
    have G0_15 : Hid (Blk w15 w8.heap.size #[.slice (some ⟨GM, 0, none⟩) x.l.length Gc, .int .i64 x.s, .int .i64 x.e, .string x.n] 38) := G0_14.out.grow hb
    clear hb cP00 cP01 cP02 cW00 cW01 cW02 cW03 cG00 cG01 cG02 cG03
    clear hq
    have cP00 : w15.cell? ⟨w.heap.size, 0, none⟩ = some (.int .i64 hd0) := (P0_15.out).cell 0
    have cP01 : w15.cell? ⟨w.heap.size, 1, none⟩ = some (.int .i64 vr0) := (P0_15.out).cell 1
    have cP02 : w15.cell? ⟨w.heap.size, 2, none⟩ = some (.slice a0 l0.length cap0) := (P0_15.out).cell 2
    have cW00 : w15.cell? ⟨w5.heap.size, 0, none⟩ = some (.slice (some ⟨WM, 0, none⟩) x.l.length Wc) := (W0_15.out).cell 0
    have cW01 : w15.cell? ⟨w5.heap.size, 1, none⟩ = some (.int .i64 x.s) := (W0_15.out).cell 1
    have cW02 : w15.cell? ⟨w5.heap.size, 2, none⟩ = some (.int .i64 x.e) := (W0_15.out).cell 2
    have cW03 : w15.cell? ⟨w5.heap.size, 3, none⟩ = some (.string x.n) := (W0_15.out).cell 3
    have cG00 : w15.cell? ⟨w8.heap.size, 0, none⟩ = some (.slice (some ⟨GM, 0, none⟩) x.l.length Gc) := (G0_15.out).cell 0
    have cG01 : w15.cell? ⟨w8.heap.size, 1, none⟩ = some (.int .i64 x.s) := (G0_15.out).cell 1
    have cG02 : w15.cell? ⟨w8.heap.size, 2, none⟩ = some (.int .i64 x.e) := (G0_15.out).cell 2
    have cG03 : w15.cell? ⟨w8.heap.size, 3, none⟩ = some (.string x.n) := (G0_15.out).cell 3
    go_wp2_with fail
    refine ((AlmK.markA_any GM x.l.length Gc 1 x.s x.e x.n Gcs _ G_15.out Gs.out FX.out.2 (by omega) (by omega)).mono (fun e w' h => (⟨h.1, h.2.1, Only.apart (S := fun k => k = GM) h.2.2 rfl⟩ : e = .returned (.int .i64 ((1 + 2 * x.l.length : Nat) : Int)) ∧ (∃ cs' : Array Value, Blk w' GM cs' 77 ∧ cs'.size = Gcs.size ∧ Marked cs' 1 x.l.length) ∧ Only (fun k => k = GM) w15 w'))).mono ?_
    rintro e w16 ⟨rfl, ⟨Hcs, hm1, -, hm2⟩, ho⟩
    have B16 : Hid (Below w.heap.size w w16) := B15.out.trans (ho.low (fun k hk => by have hk : k = GM := hk; have hw := B6.out.size; have h0 := Z1.out; have h1 := Z2.out; have h2 := Z3.out; have h3 := Z4.out; have h4 := Z5.out; have h5 := Z6.out; have h6 := Z7.out; have h7 := Z8.out; have h8 := Z9.out; have h9 := Z10.out; have h10 := Z11.out; have h11 := Z12.out; have h12 := Z13.out; have h13 := Z14.out; have h14 := Z15.out; have h15 := U_P0.out; have h16 := U_S.out; have h17 := U_T.out; have h18 := U_W.out; have h19 := U_W0.out; have h20 := U_Q0.out; have h21 := U_Y.out; have h22 := U_G.out; have h23 := U_G0.out; have h24 := U_Z.out; omega) B15.out.size)
    have Z16 : Hid (w15.heap.size ≤ w16.heap.size) := ho.size
    have P0_16 : Hid (Blk w16 w.heap.size #[.int .i64 hd0, .int .i64 vr0, .slice a0 l0.length cap0] 24) := ho.blk P0_15.out (fun hs => by have hs : _ = GM := hs; have h0 := Z1.out; have h1 := Z2.out; have h2 := Z3.out; have h3 := Z4.out; have h4 := Z5.out; have h5 := Z6.out; have h6 := Z7.out; have h7 := Z8.out; have h8 := Z9.out; have h9 := Z10.out; have h10 := Z11.out; have h11 := Z12.out; have h12 := Z13.out; have h13 := Z14.out; have h14 := Z15.out; have h15 := Z16.out; have h16 := U_P0.out; have h17 := U_S.out; have h18 := U_T.out; have h19 := U_W.out; have h20 := U_W0.out; have h21 := U_Q0.out; have h22 := U_Y.out; have h23 := U_G.out; have h24 := U_G0.out; have h25 := U_Z.out; omega)
    have W_16 : Hid (Blk w16 WM Wcs 77) := ho.blk W_15.out (fun hs => by have hs : _ = GM := hs; have h0 := Z1.out; have h1 := Z2.out; have h2 := Z3.out; have h3 := Z4.out; have h4 := Z5.out; have h5 := Z6.out; have h6 := Z7.out; have h7 := Z8.out; have h8 := Z9.out; have h9 := Z10.out; have h10 := Z11.out; have h11 := Z12.out; have h12 := Z13.out; have h13 := Z14.out; have h14 := Z15.out; have h15 := Z16.out; have h16 := U_P0.out; have h17 := U_S.out; have h18 := U_T.out; have h19 := U_W.out; have h20 := U_W0.out; have h21 := U_Q0.out; have h22 := U_Y.out; have h23 := U_G.out; have h24 := U_G0.out; have h25 := U_Z.out; omega)
    have W0_16 : Hid (Blk w16 w5.heap.size #[.slice (some ⟨WM, 0, none⟩) x.l.length Wc, .int .i64 x.s, .int .i64 x.e, .string x.n] 38) := ho.blk W0_15.out (fun hs => by have hs : _ = GM := hs; have h0 := Z1.out; have h1 := Z2.out; have h2 := Z3.out; have h3 := Z4.out; have h4 := Z5.out; have h5 := Z6.out; have h6 := Z7.out; have h7 := Z8.out; have h8 := Z9.out; have h9 := Z10.out; have h10 := Z11.out; have h11 := Z12.out; have h12 := Z13.out; have h13 := Z14.out; have h14 := Z15.out; have h15 := Z16.out; have h16 := U_P0.out; have h17 := U_S.out; have h18 := U_T.out; have h19 := U_W.out; have h20 := U_W0.out; have h21 := U_Q0.out; have h22 := U_Y.out; have h23 := U_G.out; have h24 := U_G0.out; have h25 := U_Z.out; omega)
    have G0_16 : Hid (Blk w16 w8.heap.size #[.slice (some ⟨GM, 0, none⟩) x.l.length Gc, .int .i64 x.s, .int .i64 x.e, .string x.n] 38) := ho.blk G0_15.out (fun hs => by have hs : _ = GM := hs; have h0 := Z1.out; have h1 := Z2.out; have h2 := Z3.out; have h3 := Z4.out; have h4 := Z5.out; have h5 := Z6.out; have h6 := Z7.out; have h7 := Z8.out; have h8 := Z9.out; have h9 := Z10.out; have h10 := Z11.out; have h11 := Z12.out; have h12 := Z13.out; have h13 := Z14.out; have h14 := Z15.out; have h15 := Z16.out; have h16 := U_P0.out; have h17 := U_S.out; have h18 := U_T.out; have h19 := U_W.out; have h20 := U_W0.out; have h21 := U_Q0.out; have h22 := U_Y.out; have h23 := U_G.out; have h24 := U_G0.out; have h25 := U_Z.out; omega)
    have H_16 : Hid (Blk w16 GM Hcs 77) := hm1
    have Hm : Hid (Marked Hcs 1 x.l.length) := hm2
    clear hm1 hm2
    clear ho cP00 cP01 cP02 cW00 cW01 cW02 cW03 cG00 cG01 cG02 cG03
    have hq : ¬ ((1 + 2 * x.l.length : Nat) : Int) < 0 := by omega
    have cP00 : w16.cell? ⟨w.heap.size, 0, none⟩ = some (.int .i64 hd0) := (P0_16.out).cell 0
    have cP01 : w16.cell? ⟨w.heap.size, 1, none⟩ = some (.int .i64 vr0) := (P0_16.out).cell 1
    have cP02 : w16.cell? ⟨w.heap.size, 2, none⟩ = some (.slice a0 l0.length cap0) := (P0_16.out).cell 2
    have cW00 : w16.cell? ⟨w5.heap.size, 0, none⟩ = some (.slice (some ⟨WM, 0, none⟩) x.l.length Wc) := (W0_16.out).cell 0
    have cW01 : w16.cell? ⟨w5.heap.size, 1, none⟩ = some (.int .i64 x.s) := (W0_16.out).cell 1
    have cW02 : w16.cell? ⟨w5.heap.size, 2, none⟩ = some (.int .i64 x.e) := (W0_16.out).cell 2
    have cW03 : w16.cell? ⟨w5.heap.size, 3, none⟩ = some (.string x.n) := (W0_16.out).cell 3
    have cG00 : w16.cell? ⟨w8.heap.size, 0, none⟩ = some (.slice (some ⟨GM, 0, none⟩) x.l.length Gc) := (G0_16.out).cell 0
    have cG01 : w16.cell? ⟨w8.heap.size, 1, none⟩ = some (.int .i64 x.s) := (G0_16.out).cell 1
    have cG02 : w16.cell? ⟨w8.heap.size, 2, none⟩ = some (.int .i64 x.e) := (G0_16.out).cell 2
    have cG03 : w16.cell? ⟨w8.heap.size, 3, none⟩ = some (.string x.n) := (G0_16.out).cell 3
    go_wp2_with fail
    refine (AlmK.heldA_any GM x.l.length Gc 1 x.s x.e x.n Hcs _ H_16.out Hm.out FX.out.2 (by omega) (by omega)).mono ?_
    rintro e w17 ⟨rfl, hb⟩
    have B17 : Hid (Below w.heap.size w w17) := grow_on B16.out hb
    have Z17 : Hid (w16.heap.size ≤ w17.heap.size) := hb.size
    have P0_17 : Hid (Blk w17 w.heap.size #[.int .i64 hd0, .int .i64 vr0, .slice a0 l0.length cap0] 24) := P0_16.out.grow hb
    have W_17 : Hid (Blk w17 WM Wcs 77) := W_16.out.grow hb
    have W0_17 : Hid (Blk w17 w5.heap.size #[.slice (some ⟨WM, 0, none⟩) x.l.length Wc, .int .i64 x.s, .int .i64 x.e, .string x.n] 38) := W0_16.out.grow hb
    have G0_17 : Hid (Blk w17 w8.heap.size #[.slice (some ⟨GM, 0, none⟩) x.l.length Gc, .int .i64 x.s, .int .i64 x.e, .string x.n] 38) := G0_16.out.grow hb
    have H_17 : Hid (Blk w17 GM Hcs 77) := H_16.out.grow hb
    clear hb cP00 cP01 cP02 cW00 cW01 cW02 cW03 cG00 cG01 cG02 cG03
    have cP00 : w17.cell? ⟨w.heap.size, 0, none⟩ = some (.int .i64 hd0) := (P0_17.out).cell 0
    have cP01 : w17.cell? ⟨w.heap.size, 1, none⟩ = some (.int .i64 vr0) := (P0_17.out).cell 1
    have cP02 : w17.cell? ⟨w.heap.size, 2, none⟩ = some (.slice a0 l0.length cap0) := (P0_17.out).cell 2
    have cW00 : w17.cell? ⟨w5.heap.size, 0, none⟩ = some (.slice (some ⟨WM, 0, none⟩) x.l.length Wc) := (W0_17.out).cell 0
    have cW01 : w17.cell? ⟨w5.heap.size, 1, none⟩ = some (.int .i64 x.s) := (W0_17.out).cell 1
    have cW02 : w17.cell? ⟨w5.heap.size, 2, none⟩ = some (.int .i64 x.e) := (W0_17.out).cell 2
    have cW03 : w17.cell? ⟨w5.heap.size, 3, none⟩ = some (.string x.n) := (W0_17.out).cell 3
    have cG00 : w17.cell? ⟨w8.heap.size, 0, none⟩ = some (.slice (some ⟨GM, 0, none⟩) x.l.length Gc) := (G0_17.out).cell 0
    have cG01 : w17.cell? ⟨w8.heap.size, 1, none⟩ = some (.int .i64 x.s) := (G0_17.out).cell 1
    have cG02 : w17.cell? ⟨w8.heap.size, 2, none⟩ = some (.int .i64 x.e) := (G0_17.out).cell 2
    have cG03 : w17.cell? ⟨w8.heap.size, 3, none⟩ = some (.string x.n) := (G0_17.out).cell 3
    go_wp2_with fail
    refine (toPart_any hd0 vr0 a0 cap0 l0 _ (R0.out.below stays_rd B17.out) K0.out.1 K0.out.2.1).mono ?_
    rintro e w18 ⟨⟨CM, Cr, rfl, hA, hP⟩, hb⟩
    have C_18 : Hid (CB w17.heap.size w18 CM l0.length Cr) := hA.down (by first | exact Nat.le_refl _ | simp)
    have CP : Hid (chs Cr = l0) := hP
    have U_C : Hid (w17.heap.size ≤ CM ∧ CM < w18.heap.size) := ⟨C_18.out.at', C_18.out.lt⟩
    clear hA hP
    have B18 : Hid (Below w.heap.size w w18) := grow_on B17.out hb
    have Z18 : Hid (w17.heap.size ≤ w18.heap.size) := hb.size
    have P0_18 : Hid (Blk w18 w.heap.size #[.int .i64 hd0, .int .i64 vr0, .slice a0 l0.length cap0] 24) := P0_17.out.grow hb
    have W_18 : Hid (Blk w18 WM Wcs 77) := W_17.out.grow hb
    have W0_18 : Hid (Blk w18 w5.heap.size #[.slice (some ⟨WM, 0, none⟩) x.l.length Wc, .int .i64 x.s, .int .i64 x.e, .string x.n] 38) := W0_17.out.grow hb
    have G0_18 : Hid (Blk w18 w8.heap.size #[.slice (some ⟨GM, 0, none⟩) x.l.length Gc, .int .i64 x.s, .int .i64 x.e, .string x.n] 38) := G0_17.out.grow hb
    have H_18 : Hid (Blk w18 GM Hcs 77) := H_17.out.grow hb
    clear hb cP00 cP01 cP02 cW00 cW01 cW02 cW03 cG00 cG01 cG02 cG03
    have cP00 : w18.cell? ⟨w.heap.size, 0, none⟩ = some (.int .i64 hd0) := (P0_18.out).cell 0
    have cP01 : w18.cell? ⟨w.heap.size, 1, none⟩ = some (.int .i64 vr0) := (P0_18.out).cell 1
    have cP02 : w18.cell? ⟨w.heap.size, 2, none⟩ = some (.slice a0 l0.length cap0) := (P0_18.out).cell 2
    have cW00 : w18.cell? ⟨w5.heap.size, 0, none⟩ = some (.slice (some ⟨WM, 0, none⟩) x.l.length Wc) := (W0_18.out).cell 0
    have cW01 : w18.cell? ⟨w5.heap.size, 1, none⟩ = some (.int .i64 x.s) := (W0_18.out).cell 1
    have cW02 : w18.cell? ⟨w5.heap.size, 2, none⟩ = some (.int .i64 x.e) := (W0_18.out).cell 2
    have cW03 : w18.cell? ⟨w5.heap.size, 3, none⟩ = some (.string x.n) := (W0_18.out).cell 3
    have cG00 : w18.cell? ⟨w8.heap.size, 0, none⟩ = some (.slice (some ⟨GM, 0, none⟩) x.l.length Gc) := (G0_18.out).cell 0
    have cG01 : w18.cell? ⟨w8.heap.size, 1, none⟩ = some (.int .i64 x.s) := (G0_18.out).cell 1
    have cG02 : w18.cell? ⟨w8.heap.size, 2, none⟩ = some (.int .i64 x.e) := (G0_18.out).cell 2
    have cG03 : w18.cell? ⟨w8.heap.size, 3, none⟩ = some (.string x.n) := (G0_18.out).cell 3
    go_wp2_with fail
    refine (LabT.to_any a1 cap1 l1 _ (R1.out.below B18.out) K1.out).mono ?_
    rintro e w19 ⟨rfl, ⟨Dcs, hk, hs, hh⟩, hb⟩
    have D_19 : Hid (Blk w19 w18.heap.size Dcs 77) := (by first | exact hk | (have hk2 := hk; simp at hk2; exact hk2))
    have Ds : Hid (Dcs.size = l1.length * 2) := hs
    have Dh : Hid (LabT.Held Dcs l1 l1.length) := hh
    have U_D : Hid (w18.heap.size ≤ w18.heap.size ∧ w18.heap.size < w19.heap.size) := ⟨by omega, D_19.out.lt⟩
    clear hk hs hh
    have B19 : Hid (Below w.heap.size w w19) := grow_on B18.out hb
    have Z19 : Hid (w18.heap.size ≤ w19.heap.size) := hb.size
    have P0_19 : Hid (Blk w19 w.heap.size #[.int .i64 hd0, .int .i64 vr0, .slice a0 l0.length cap0] 24) := P0_18.out.grow hb
    have W_19 : Hid (Blk w19 WM Wcs 77) := W_18.out.grow hb
    have W0_19 : Hid (Blk w19 w5.heap.size #[.slice (some ⟨WM, 0, none⟩) x.l.length Wc, .int .i64 x.s, .int .i64 x.e, .string x.n] 38) := W0_18.out.grow hb
    have G0_19 : Hid (Blk w19 w8.heap.size #[.slice (some ⟨GM, 0, none⟩) x.l.length Gc, .int .i64 x.s, .int .i64 x.e, .string x.n] 38) := G0_18.out.grow hb
    have H_19 : Hid (Blk w19 GM Hcs 77) := H_18.out.grow hb
    have C_19 : Hid (CB w17.heap.size w19 CM l0.length Cr) := C_18.out.grow hb
    clear hb cP00 cP01 cP02 cW00 cW01 cW02 cW03 cG00 cG01 cG02 cG03
    have cP00 : w19.cell? ⟨w.heap.size, 0, none⟩ = some (.int .i64 hd0) := (P0_19.out).cell 0
    have cP01 : w19.cell? ⟨w.heap.size, 1, none⟩ = some (.int .i64 vr0) := (P0_19.out).cell 1
    have cP02 : w19.cell? ⟨w.heap.size, 2, none⟩ = some (.slice a0 l0.length cap0) := (P0_19.out).cell 2
    have cW00 : w19.cell? ⟨w5.heap.size, 0, none⟩ = some (.slice (some ⟨WM, 0, none⟩) x.l.length Wc) := (W0_19.out).cell 0
    have cW01 : w19.cell? ⟨w5.heap.size, 1, none⟩ = some (.int .i64 x.s) := (W0_19.out).cell 1
    have cW02 : w19.cell? ⟨w5.heap.size, 2, none⟩ = some (.int .i64 x.e) := (W0_19.out).cell 2
    have cW03 : w19.cell? ⟨w5.heap.size, 3, none⟩ = some (.string x.n) := (W0_19.out).cell 3
    have cG00 : w19.cell? ⟨w8.heap.size, 0, none⟩ = some (.slice (some ⟨GM, 0, none⟩) x.l.length Gc) := (G0_19.out).cell 0
    have cG01 : w19.cell? ⟨w8.heap.size, 1, none⟩ = some (.int .i64 x.s) := (G0_19.out).cell 1
    have cG02 : w19.cell? ⟨w8.heap.size, 2, none⟩ = some (.int .i64 x.e) := (G0_19.out).cell 2
    have cG03 : w19.cell? ⟨w8.heap.size, 3, none⟩ = some (.string x.n) := (G0_19.out).cell 3
    go_wp2_with fail
    refine (implFind_yes hd0 vr0 _ _ _ _ l0 l1 x _ (rdC C_19.out CP.out) (held_reads D_19.out Dh.out) K0.out.1 N0.out M1.out F1.out FB.out).mono ?_
    rintro e w20 ⟨⟨EM, Ec, rfl, hO⟩, hb⟩
    obtain ⟨hO1, Ecs, hO2, hO3, hO4⟩ := hO
    have E_20 : Hid (Blk w20 EM Ecs 77) := hO2
    have Es : Hid (x.l.length * 2 ≤ Ecs.size) := hO3
    have Eh : Hid (LabT.Held Ecs x.l x.l.length) := hO4
    have U_E : Hid (w19.heap.size ≤ EM ∧ EM < w20.heap.size) := ⟨Nat.le_trans (by first | exact Nat.le_refl _ | simp) hO1, hO2.lt⟩
    clear hO1 hO2 hO3 hO4
    have B20 : Hid (Below w.heap.size w w20) := grow_on B19.out hb
    have Z20 : Hid (w19.heap.size ≤ w20.heap.size) := hb.size
    have P0_20 : Hid (Blk w20 w.heap.size #[.int .i64 hd0, .int .i64 vr0, .slice a0 l0.length cap0] 24) := P0_19.out.grow hb
    have W_20 : Hid (Blk w20 WM Wcs 77) := W_19.out.grow hb
    have W0_20 : Hid (Blk w20 w5.heap.size #[.slice (some ⟨WM, 0, none⟩) x.l.length Wc, .int .i64 x.s, .int .i64 x.e, .string x.n] 38) := W0_19.out.grow hb
    have G0_20 : Hid (Blk w20 w8.heap.size #[.slice (some ⟨GM, 0, none⟩) x.l.length Gc, .int .i64 x.s, .int .i64 x.e, .string x.n] 38) := G0_19.out.grow hb
    have H_20 : Hid (Blk w20 GM Hcs 77) := H_19.out.grow hb
    have C_20 : Hid (CB w17.heap.size w20 CM l0.length Cr) := C_19.out.grow hb
    have D_20 : Hid (Blk w20 w18.heap.size Dcs 77) := D_19.out.grow hb
    clear hb cP00 cP01 cP02 cW00 cW01 cW02 cW03 cG00 cG01 cG02 cG03
    have eA : Alm.sameB x.l x.s x.e x.n x.l x.s x.e x.n = true := Alm.same_self _ _ _ _
    have cP00 : (w20.alloc (.cells #[.slice (some ⟨EM, 0, none⟩) x.l.length Ec, .int .i64 x.s, .int .i64 x.e, .string x.n] 38)).cell? ⟨w.heap.size, 0, none⟩ = some (.int .i64 hd0) := (P0_20.out.alloc _).cell 0
    have cP01 : (w20.alloc (.cells #[.slice (some ⟨EM, 0, none⟩) x.l.length Ec, .int .i64 x.s, .int .i64 x.e, .string x.n] 38)).cell? ⟨w.heap.size, 1, none⟩ = some (.int .i64 vr0) := (P0_20.out.alloc _).cell 1
    have cP02 : (w20.alloc (.cells #[.slice (some ⟨EM, 0, none⟩) x.l.length Ec, .int .i64 x.s, .int .i64 x.e, .string x.n] 38)).cell? ⟨w.heap.size, 2, none⟩ = some (.slice a0 l0.length cap0) := (P0_20.out.alloc _).cell 2
    have cW00 : (w20.alloc (.cells #[.slice (some ⟨EM, 0, none⟩) x.l.length Ec, .int .i64 x.s, .int .i64 x.e, .string x.n] 38)).cell? ⟨w5.heap.size, 0, none⟩ = some (.slice (some ⟨WM, 0, none⟩) x.l.length Wc) := (W0_20.out.alloc _).cell 0
    have cW01 : (w20.alloc (.cells #[.slice (some ⟨EM, 0, none⟩) x.l.length Ec, .int .i64 x.s, .int .i64 x.e, .string x.n] 38)).cell? ⟨w5.heap.size, 1, none⟩ = some (.int .i64 x.s) := (W0_20.out.alloc _).cell 1
    have cW02 : (w20.alloc (.cells #[.slice (some ⟨EM, 0, none⟩) x.l.length Ec, .int .i64 x.s, .int .i64 x.e, .string x.n] 38)).cell? ⟨w5.heap.size, 2, none⟩ = some (.int .i64 x.e) := (W0_20.out.alloc _).cell 2
    have cW03 : (w20.alloc (.cells #[.slice (some ⟨EM, 0, none⟩) x.l.length Ec, .int .i64 x.s, .int .i64 x.e, .string x.n] 38)).cell? ⟨w5.heap.size, 3, none⟩ = some (.string x.n) := (W0_20.out.alloc _).cell 3
    have cG00 : (w20.alloc (.cells #[.slice (some ⟨EM, 0, none⟩) x.l.length Ec, .int .i64 x.s, .int .i64 x.e, .string x.n] 38)).cell? ⟨w8.heap.size, 0, none⟩ = some (.slice (some ⟨GM, 0, none⟩) x.l.length Gc) := (G0_20.out.alloc _).cell 0
    have cG01 : (w20.alloc (.cells #[.slice (some ⟨EM, 0, none⟩) x.l.length Ec, .int .i64 x.s, .int .i64 x.e, .string x.n] 38)).cell? ⟨w8.heap.size, 1, none⟩ = some (.int .i64 x.s) := (G0_20.out.alloc _).cell 1
    have cG02 : (w20.alloc (.cells #[.slice (some ⟨EM, 0, none⟩) x.l.length Ec, .int .i64 x.s, .int .i64 x.e, .string x.n] 38)).cell? ⟨w8.heap.size, 2, none⟩ = some (.int .i64 x.e) := (G0_20.out.alloc _).cell 2
    have cG03 : (w20.alloc (.cells #[.slice (some ⟨EM, 0, none⟩) x.l.length Ec, .int .i64 x.s, .int .i64 x.e, .string x.n] 38)).cell? ⟨w8.heap.size, 3, none⟩ = some (.string x.n) := (G0_20.out.alloc _).cell 3
    go_wp2_with fail
    refine (Alm.eq_any _ _ _ _ x.l x.l x.s x.e x.s x.e x.n x.n _ ((held_reads E_20.out Eh.out).below (Go.Joins.below_alloc1 w20 _)) ((held_reads W_20.out Wh.out).below (Go.Joins.below_alloc1 w20 _)) FX.out.1.len FX.out.1.len).mono ?_
    rintro e w21 ⟨rfl, hb⟩
    have E0_21 : Hid (Blk w21 w20.heap.size #[.slice (some ⟨EM, 0, none⟩) x.l.length Ec, .int .i64 x.s, .int .i64 x.e, .string x.n] 38) := (Blk.new _ _ _).grow hb
    have U_E0 : Hid (w20.heap.size ≤ w20.heap.size ∧ w20.heap.size < w21.heap.size) := ⟨Nat.le_refl _, E0_21.out.lt⟩
    replace hb := grow_on (Go.Joins.below_alloc1 w20 _) hb
    have B21 : Hid (Below w.heap.size w w21) := grow_on B20.out hb
    have Z21 : Hid (w20.heap.size ≤ w21.heap.size) := hb.size
    have P0_21 : Hid (Blk w21 w.heap.size #[.int .i64 hd0, .int .i64 vr0, .slice a0 l0.length cap0] 24) := P0_20.out.grow hb
    have W_21 : Hid (Blk w21 WM Wcs 77) := W_20.out.grow hb
    have W0_21 : Hid (Blk w21 w5.heap.size #[.slice (some ⟨WM, 0, none⟩) x.l.length Wc, .int .i64 x.s, .int .i64 x.e, .string x.n] 38) := W0_20.out.grow hb
    have G0_21 : Hid (Blk w21 w8.heap.size #[.slice (some ⟨GM, 0, none⟩) x.l.length Gc, .int .i64 x.s, .int .i64 x.e, .string x.n] 38) := G0_20.out.grow hb
    have H_21 : Hid (Blk w21 GM Hcs 77) := H_20.out.grow hb
    have E_21 : Hid (Blk w21 EM Ecs 77) := E_20.out.grow hb
    clear hb cP00 cP01 cP02 cW00 cW01 cW02 cW03 cG00 cG01 cG02 cG03
    have hq : ¬ ((1 + 2 * x.l.length : Nat) : Int) < 0 := by omega
    have cP00 : w21.cell? ⟨w.heap.size, 0, none⟩ = some (.int .i64 hd0) := (P0_21.out).cell 0
    have cP01 : w21.cell? ⟨w.heap.size, 1, none⟩ = some (.int .i64 vr0) := (P0_21.out).cell 1
    have cP02 : w21.cell? ⟨w.heap.size, 2, none⟩ = some (.slice a0 l0.length cap0) := (P0_21.out).cell 2
    have cW00 : w21.cell? ⟨w5.heap.size, 0, none⟩ = some (.slice (some ⟨WM, 0, none⟩) x.l.length Wc) := (W0_21.out).cell 0
    have cW01 : w21.cell? ⟨w5.heap.size, 1, none⟩ = some (.int .i64 x.s) := (W0_21.out).cell 1
    have cW02 : w21.cell? ⟨w5.heap.size, 2, none⟩ = some (.int .i64 x.e) := (W0_21.out).cell 2
    have cW03 : w21.cell? ⟨w5.heap.size, 3, none⟩ = some (.string x.n) := (W0_21.out).cell 3
    have cG00 : w21.cell? ⟨w8.heap.size, 0, none⟩ = some (.slice (some ⟨GM, 0, none⟩) x.l.length Gc) := (G0_21.out).cell 0
    have cG01 : w21.cell? ⟨w8.heap.size, 1, none⟩ = some (.int .i64 x.s) := (G0_21.out).cell 1
    have cG02 : w21.cell? ⟨w8.heap.size, 2, none⟩ = some (.int .i64 x.e) := (G0_21.out).cell 2
    have cG03 : w21.cell? ⟨w8.heap.size, 3, none⟩ = some (.string x.n) := (G0_21.out).cell 3
    have cE00 : w21.cell? ⟨w20.heap.size, 0, none⟩ = some (.slice (some ⟨EM, 0, none⟩) x.l.length Ec) := (E0_21.out).cell 0
    have cE01 : w21.cell? ⟨w20.heap.size, 1, none⟩ = some (.int .i64 x.s) := (E0_21.out).cell 1
    have cE02 : w21.cell? ⟨w20.heap.size, 2, none⟩ = some (.int .i64 x.e) := (E0_21.out).cell 2
    have cE03 : w21.cell? ⟨w20.heap.size, 3, none⟩ = some (.string x.n) := (E0_21.out).cell 3
    go_wp2_with fail
    refine (AlmK.heldA_any GM x.l.length Gc 1 x.s x.e x.n Hcs _ H_21.out Hm.out FX.out.2 (by omega) (by omega)).mono ?_
    rintro e w22 ⟨rfl, hb⟩
    have B22 : Hid (Below w.heap.size w w22) := grow_on B21.out hb
    have Z22 : Hid (w21.heap.size ≤ w22.heap.size) := hb.size
    have P0_22 : Hid (Blk w22 w.heap.size #[.int .i64 hd0, .int .i64 vr0, .slice a0 l0.length cap0] 24) := P0_21.out.grow hb
    have W_22 : Hid (Blk w22 WM Wcs 77) := W_21.out.grow hb
    have W0_22 : Hid (Blk w22 w5.heap.size #[.slice (some ⟨WM, 0, none⟩) x.l.length Wc, .int .i64 x.s, .int .i64 x.e, .string x.n] 38) := W0_21.out.grow hb
    have G0_22 : Hid (Blk w22 w8.heap.size #[.slice (some ⟨GM, 0, none⟩) x.l.length Gc, .int .i64 x.s, .int .i64 x.e, .string x.n] 38) := G0_21.out.grow hb
    have H_22 : Hid (Blk w22 GM Hcs 77) := H_21.out.grow hb
    have E_22 : Hid (Blk w22 EM Ecs 77) := E_21.out.grow hb
    have E0_22 : Hid (Blk w22 w20.heap.size #[.slice (some ⟨EM, 0, none⟩) x.l.length Ec, .int .i64 x.s, .int .i64 x.e, .string x.n] 38) := E0_21.out.grow hb
    clear hb cP00 cP01 cP02 cW00 cW01 cW02 cW03 cG00 cG01 cG02 cG03 cE00 cE01 cE02 cE03
    have cP00 : w22.cell? ⟨w.heap.size, 0, none⟩ = some (.int .i64 hd0) := (P0_22.out).cell 0
    have cP01 : w22.cell? ⟨w.heap.size, 1, none⟩ = some (.int .i64 vr0) := (P0_22.out).cell 1
    have cP02 : w22.cell? ⟨w.heap.size, 2, none⟩ = some (.slice a0 l0.length cap0) := (P0_22.out).cell 2
    have cW00 : w22.cell? ⟨w5.heap.size, 0, none⟩ = some (.slice (some ⟨WM, 0, none⟩) x.l.length Wc) := (W0_22.out).cell 0
    have cW01 : w22.cell? ⟨w5.heap.size, 1, none⟩ = some (.int .i64 x.s) := (W0_22.out).cell 1
    have cW02 : w22.cell? ⟨w5.heap.size, 2, none⟩ = some (.int .i64 x.e) := (W0_22.out).cell 2
    have cW03 : w22.cell? ⟨w5.heap.size, 3, none⟩ = some (.string x.n) := (W0_22.out).cell 3
    have cG00 : w22.cell? ⟨w8.heap.size, 0, none⟩ = some (.slice (some ⟨GM, 0, none⟩) x.l.length Gc) := (G0_22.out).cell 0
    have cG01 : w22.cell? ⟨w8.heap.size, 1, none⟩ = some (.int .i64 x.s) := (G0_22.out).cell 1
    have cG02 : w22.cell? ⟨w8.heap.size, 2, none⟩ = some (.int .i64 x.e) := (G0_22.out).cell 2
    have cG03 : w22.cell? ⟨w8.heap.size, 3, none⟩ = some (.string x.n) := (G0_22.out).cell 3
    have cE00 : w22.cell? ⟨w20.heap.size, 0, none⟩ = some (.slice (some ⟨EM, 0, none⟩) x.l.length Ec) := (E0_22.out).cell 0
    have cE01 : w22.cell? ⟨w20.heap.size, 1, none⟩ = some (.int .i64 x.s) := (E0_22.out).cell 1
    have cE02 : w22.cell? ⟨w20.heap.size, 2, none⟩ = some (.int .i64 x.e) := (E0_22.out).cell 2
    have cE03 : w22.cell? ⟨w20.heap.size, 3, none⟩ = some (.string x.n) := (E0_22.out).cell 3
    go_wp2
    go_ret
    exact ⟨rfl, B22.out⟩
theorem own : ownKnob Try.prog.godebug = none := by kernel_rfl
theorem laidOut : laidOutB Try.prog = true := by kernel_rfl
set_option maxRecDepth 100000 in
theorem lifted (os : Os) (started : os.Started) (H : Type) (enc : TypeId × Value → H) :
    ReturnsInHanded {} Try.checked os 5 .any (Rows.fnExactFindInSpec.pre6 enc Try.prog Try.f5 Rows.fnExactFindInRow.domain false) (Rows.fnExactFindInSpec.post enc Try.prog Try.f5 false true false false) := by
  refine returnsInHanded_of_change (C := Try.checked) own started (by kernel_rfl) Try.func5
    (ChangeSpec.witness6 (enc := enc) (C := Try.checked) false ⟨#[], #[.agg #[.int .i64 0, .int .i64 0, .slice none 0 0], .slice none 0 0], []⟩ 8 (by kernel_rfl) (by kernel_rfl) (by kernel_rfl) (by kernel_rfl)) ?_
  intro W base args ds gs before hval0 hW hcnd _
  have hval : ∀ (j : Nat) t v, Try.f5.params[j]? = some t → args[j]? = some v → Value.okWide Try.prog W .any base t v := hval0
  have hW' := hW
  obtain ⟨p, q, hA0, hV, rfl, hfz, hnd⟩ := hW
  have hA : DataW.TrodAll enc Try.prog W 0 (fun _ => true) true Try.f5.params.toList args.toList ds p := hA0
  rw [Try.params5] at hA hval
  obtain ⟨v0, vs0, d0, ds0, p0, q0, hargs, rfl, rfl, h0, r0⟩ := trodAll_cons hA
  obtain ⟨v1, vs1, d1, ds1, p1, q1, rfl, rfl, rfl, h1, r1⟩ := trodAll_cons r0
  obtain ⟨rfl, rfl, rfl⟩ := trodAll_nil r1
  obtain rfl : args = #[v0, v1] := by cases args; simp_all
  obtain ⟨rfl, rfl⟩ := trodVars_none hV
  have k0 := h0
  have lt0 : ∀ x ∈ p0, x.block < W.heap.size := by obtain ⟨m, hm⟩ := k0; exact DataW.trod_lt m _ _ _ hm
  obtain ⟨hd0, vr0, a0, cap0, l0, rfl, w0, m0, z0, y0, x0⟩ := Go.Proofs.Ytdbmpaocfmhlhaa.Prt.open_part (hval 0 24 v0 rfl rfl) h0
  obtain ⟨a1, len1, cap1, rfl⟩ := okWide_slice Try.underlying34 (hval 1 34 v1 rfl rfl)
  have k1 := h1
  have lt1 : ∀ x ∈ p1, x.block < W.heap.size := by obtain ⟨m, hm⟩ := k1; exact DataW.trod_lt m _ _ _ hm
  obtain ⟨l1, rfl, w1, m1, f1⟩ : ∃ l : List (ByteArray × ByteArray), len1 = l.length ∧ Go.Proofs.Ytdbmpaocfmhlhaa.LabS.Reads W a1 l ∧ l.length ≤ maxLen ∧ Go.Proofs.Ytdbmpaocfmhlhaa.LabT.Fits l := by
    obtain ⟨fuel, hf⟩ := h1
    exact Go.Proofs.Ytdbmpaocfmhlhaa.LabT.open_labs (by simpa [Value.cells] using hf)
  clear hA0 hval0
  refine (walk hd0 vr0 a0 cap0 l0 a1 cap1 l1 W w0 m0 z0 y0 x0 w1 m1 f1).mono fun e W' ⟨he, bel⟩ => ?_
  subst he
  exact ⟨_, rfl, _, _, _, [], _, [], hW', trodAll_mk1 (shut_bool Try.underlying4 _), (trodAll_cons_mk (Below.trod laidOut (by kernel_rfl) (of_decide_eq_true (by kernel_rfl)) k0 bel lt0) (trodAll_cons_mk (Below.trod laidOut (by kernel_rfl) (of_decide_eq_true (by kernel_rfl)) k1 bel lt1) trodAll_mk0)), rfl, bel.frame _, fun h => by cases h⟩

theorem over : Rows.fnExactFindInRow.holds Try.pinned (OpenSpec.ofChange Rows.fnExactFindInSpec) :=
  OpenClaim.holds_of_wide 5 Try.f5 rfl rfl rfl rfl rfl rfl rfl ⟨rfl, rfl, rfl, rfl, rfl⟩ rfl rfl rfl rfl rfl (by kernel_rfl) Try.func5 (by kernel_rfl)
    (of_decide_eq_true (by kernel_rfl)) (by unfold Func.isWrapper; first | (rw [if_pos (by decide +kernel)]; kernel_rfl) | (rw [if_neg (by decide +kernel)]; exact ⟨rfl, rfl⟩))
    (fun os started H enc _ => lifted os started H enc)

end Go.Proofs.Ytdbmpaocfmhlhaa.FnExactFindIn
namespace Go.Proofs.Ytdbmpaocfmhlhaa
theorem fnExactFindIn_holds : Rows.FnExactFindInSaid := FnExactFindIn.over
#print axioms fnExactFindIn_holds
end Go.Proofs.Ytdbmpaocfmhlhaa
