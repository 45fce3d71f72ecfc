/-
  PROVED: at every group and every slice of strings impl.GroupOk answers as spec.GroupOk and leaves them as they were, so the law laws.FnExactGroupOk returns true, whatever its arguments. No condition.
-/
import Derived.Test.YtekcmpjjfnijmaaRows
import Derived.WalkKit
import Derived.ProofKit
import Derived.OpenShut
import Derived.ShutString
import Derived.ChangeOld
import Derived.Below
import Derived.WalkLawsBesides
import Derived.WalkSpells
import Derived.Test.YtekcmpjjfnijmaaGrpI
import Derived.Test.YtekcmpjjfnijmaaMark
import Derived.Deep.RegionHeld3
namespace Go.Proofs.Ytekcmpjjfnijmaa.FnExactGroupOk
open Go.ChangeShapes Go.WideShapes Go.ChangeAt Go.RowKit
open Go.ChangeMaps (open_string shut_string)
set_option linter.unusedVariables false

open Go.Proofs.Ytekcmpjjfnijmaa.Labs Go.Proofs.Ytekcmpjjfnijmaa.LabS Go.Proofs.Ytekcmpjjfnijmaa.Over Go.Proofs.Ytekcmpjjfnijmaa.Blk Go.Proofs.Ytekcmpjjfnijmaa.Alms Go.Proofs.Ytekcmpjjfnijmaa.Rws Go.Proofs.Ytekcmpjjfnijmaa.ChnC Go.Proofs.Ytekcmpjjfnijmaa.ChnK Go.Proofs.Ytekcmpjjfnijmaa.Grp
open Go.Proofs.Ytekcmpjjfnijmaa.Alm (AlIn)
open Go.Proofs.Ytekcmpjjfnijmaa.Pro (RdS)
open Go.Proofs.Ytekcmpjjfnijmaa.StrT (FitsS heldS_reads HeldS)
open Go.Proofs.Ytekcmpjjfnijmaa.LabT (held_reads Fits)
theorem rdP {lo : Nat} {w : World} {K M o : Nat} {key : List Lab} {rs : List ARow} {P : List PAl} (h : GB lo w K key M o rs) (hp : pals rs = P) : RdN w (some ⟨M, o, none⟩) P := by have := h.row.rd; rwa [hp] at this
theorem len_m {P : List PAl} (h : LenM P) : ChnI.LenP P := ChnP.len_m h
theorem len_of {rs : List ARow} {P : List PAl} (h : pals rs = P) : rs.length = P.length := by rw [← h, pals_len]
set_option maxRecDepth 100000 in
set_option maxHeartbeats 8000000 in
theorem walk (n0 b0 t0 : Int) (ka0 : Option Addr) (kc0 : Nat) (key0 : List Lab) (a0 : Option Addr) (cap0 : Nat) (l0 : List PAl) (a1 : Option Addr) (cap1 : Nat) (l1 : List ByteArray) (w : World) (u0 : Reads w ka0 key0) (q0 : key0.length ≤ maxLen) (y0 : Fits key0) (r0 : RdA w a0 l0) (m0 : l0.length ≤ maxLen) (z0 : FitsP l0) (r1 : RdS w a1 l1) (m1 : l1.length ≤ maxLen) (f1 : FitsS l1) :
    Calls Try.prog 4 #[.agg #[.int .i64 n0, .slice ka0 key0.length kc0, .int .i64 b0, .int .i64 t0, .slice a0 l0.length cap0], .slice a1 l1.length cap1] w fun e w' => e = .returned (.bool true) ∧ Below w.heap.size w w' := by
  have U0 : Hid (Reads w ka0 key0) := u0
  have Q0k : Hid (key0.length ≤ maxLen ∧ Fits key0) := ⟨q0, y0⟩
  have R0 : Hid (RdA w a0 l0) := r0
  have M0 : Hid (l0.length ≤ maxLen) := m0
  have F0 : Hid (FitsP l0) := z0
  clear u0 q0 y0 r0 m0 z0
  have R1 : Hid (RdS w a1 l1) := r1
  have M1 : Hid (l1.length ≤ maxLen) := m1
  have F1 : Hid (FitsS l1) := f1
  clear r1 m1 f1
  have B0 : Hid (Below w.heap.size w w) := Below.refl _ _
  go_enter Try.func4, Try.ntmps4
  go_wp2_with fail
  refine (Grp.szGroup_any n0 b0 t0 ka0 kc0 key0 a0 cap0 l0 1048576 _ (U0.out.below (grow_on B0.out (Go.Joins.below_alloc1 w _))) Q0k.out.1 Q0k.out.2 (R0.out.below (grow_on B0.out (Go.Joins.below_alloc1 w _))) M0.out F0.out (by omega) (by omega)).mono ?_
  rintro e w1 ⟨⟨k0, rfl, p0, hn⟩, hb⟩
  have P0_1 : Hid (Blk w1 w.heap.size #[.int .i64 n0, .slice ka0 key0.length kc0, .int .i64 b0, .int .i64 t0, .slice a0 l0.length cap0] 58) := (Blk.new _ _ _).grow hb
  have U_P0 : Hid (w.heap.size ≤ w.heap.size ∧ w.heap.size < w1.heap.size) := ⟨by omega, P0_1.out.lt⟩
  replace hb := grow_on (Go.Joins.below_alloc1 w _) hb
  have B1 : Hid (Below w.heap.size w w1) := grow_on B0.out hb
  have Z1 : Hid (w.heap.size ≤ w1.heap.size) := hb.size
  clear hb
  by_cases g0 : k0 < 0
  · clear hn
    go_wp2
    go_ret
    exact ⟨rfl, B1.out⟩
  have K0 : Hid (key0.length ≤ 1048576 ∧ l0.length ≤ 1048576 ∧ sumL l0 ≤ 1048576 ∧ key0.length + l0.length + sumL l0 ≤ 1048576) := by have := hn (by omega); exact ⟨by omega, by omega, by omega, by omega⟩
  have N0 : Hid (LenM l0) := fun q hq => Nat.le_trans (sum_nth hq) K0.out.2.2.1
  clear hn
  have cP00 : w1.cell? ⟨w.heap.size, 0, none⟩ = some (.int .i64 n0) := (P0_1.out).cell 0
  have cP01 : w1.cell? ⟨w.heap.size, 1, none⟩ = some (.slice ka0 key0.length kc0) := (P0_1.out).cell 1
  have cP02 : w1.cell? ⟨w.heap.size, 2, none⟩ = some (.int .i64 b0) := (P0_1.out).cell 2
  have cP03 : w1.cell? ⟨w.heap.size, 3, none⟩ = some (.int .i64 t0) := (P0_1.out).cell 3
  have cP04 : w1.cell? ⟨w.heap.size, 4, none⟩ = some (.slice a0 l0.length cap0) := (P0_1.out).cell 4
  go_wp2_with fail
  refine (StrT.sz_any a1 cap1 l1 k0 _ (R1.out.below B1.out) M1.out F1.out (by omega) (by omega)).mono ?_
  rintro e w2 ⟨⟨k1, rfl, p1, hn⟩, hb⟩
  have B2 : Hid (Below w.heap.size w w2) := grow_on B1.out hb
  have Z2 : Hid (w1.heap.size ≤ w2.heap.size) := hb.size
  have P0_2 : Hid (Blk w2 w.heap.size #[.int .i64 n0, .slice ka0 key0.length kc0, .int .i64 b0, .int .i64 t0, .slice a0 l0.length cap0] 58) := P0_1.out.grow hb
  clear hb cP00 cP01 cP02 cP03 cP04
  by_cases g1 : k1 < 0
  · clear hn
    go_wp2
    go_ret
    exact ⟨rfl, B2.out⟩
  have K1 : Hid (l1.length ≤ 1048576) := by have := hn (by omega); show l1.length ≤ 1048576; omega
  clear hn
  have cP00 : w2.cell? ⟨w.heap.size, 0, none⟩ = some (.int .i64 n0) := (P0_2.out).cell 0
  have cP01 : w2.cell? ⟨w.heap.size, 1, none⟩ = some (.slice ka0 key0.length kc0) := (P0_2.out).cell 1
  have cP02 : w2.cell? ⟨w.heap.size, 2, none⟩ = some (.int .i64 b0) := (P0_2.out).cell 2
  have cP03 : w2.cell? ⟨w.heap.size, 3, none⟩ = some (.int .i64 t0) := (P0_2.out).cell 3
  have cP04 : w2.cell? ⟨w.heap.size, 4, none⟩ = some (.slice a0 l0.length cap0) := (P0_2.out).cell 4
  go_wp2_with fail
  refine (Grp.toGroup_any n0 b0 t0 ka0 kc0 key0 a0 cap0 l0 _ (U0.out.below B2.out) K0.out.1 (R0.out.below B2.out) K0.out.2.1 K0.out.2.2.1).mono ?_
  rintro e w3 ⟨⟨SK, SM, Sr, rfl, hG, hA, hP⟩, hb⟩
  have S_3 : Hid (GB w2.heap.size w3 SK key0 SM 0 Sr) := hG.down (by first | omega | (simp; omega))
  have SP : Hid (pals Sr = l0) := hP
  have SR : Hid (∀ k, gblks SK SM Sr k → w2.heap.size + 2 < k ∧ k < w3.heap.size) := fun k hk => by have := hG.rng k hk; (try simp at this); omega
  have SL : Hid (∀ x ∈ Sr, x.2.2.l.length ≤ 1048576) := hG.len
  clear hG hA hP
  have B3 : Hid (Below w.heap.size w w3) := grow_on B2.out hb
  have Z3 : Hid (w2.heap.size ≤ w3.heap.size) := hb.size
  have P0_3 : Hid (Blk w3 w.heap.size #[.int .i64 n0, .slice ka0 key0.length kc0, .int .i64 b0, .int .i64 t0, .slice a0 l0.length cap0] 58) := P0_2.out.grow hb
  clear hb cP00 cP01 cP02 cP03 cP04
  have cP00 : w3.cell? ⟨w.heap.size, 0, none⟩ = some (.int .i64 n0) := (P0_3.out).cell 0
  have cP01 : w3.cell? ⟨w.heap.size, 1, none⟩ = some (.slice ka0 key0.length kc0) := (P0_3.out).cell 1
  have cP02 : w3.cell? ⟨w.heap.size, 2, none⟩ = some (.int .i64 b0) := (P0_3.out).cell 2
  have cP03 : w3.cell? ⟨w.heap.size, 3, none⟩ = some (.int .i64 t0) := (P0_3.out).cell 3
  have cP04 : w3.cell? ⟨w.heap.size, 4, none⟩ = some (.slice a0 l0.length cap0) := (P0_3.out).cell 4
  go_wp2_with fail
  refine (StrT.to_any a1 cap1 l1 _ (R1.out.below B3.out) K1.out).mono ?_
  rintro e w4 ⟨rfl, ⟨Tcs, hk, hs, hh⟩, hb⟩
  have Tk_4 : Hid (Blk w4 w3.heap.size Tcs 9) := hk
  have Th : Hid (HeldS Tcs l1) := hh
  clear hk hs hh
  have B4 : Hid (Below w.heap.size w w4) := grow_on B3.out hb
  have Z4 : Hid (w3.heap.size ≤ w4.heap.size) := hb.size
  have P0_4 : Hid (Blk w4 w.heap.size #[.int .i64 n0, .slice ka0 key0.length kc0, .int .i64 b0, .int .i64 t0, .slice a0 l0.length cap0] 58) := P0_3.out.grow hb
  have S_4 : Hid (GB w2.heap.size w4 SK key0 SM 0 Sr) := S_3.out.grow hb
  clear hb cP00 cP01 cP02 cP03 cP04
  have cP00 : w4.cell? ⟨w.heap.size, 0, none⟩ = some (.int .i64 n0) := (P0_4.out).cell 0
  have cP01 : w4.cell? ⟨w.heap.size, 1, none⟩ = some (.slice ka0 key0.length kc0) := (P0_4.out).cell 1
  have cP02 : w4.cell? ⟨w.heap.size, 2, none⟩ = some (.int .i64 b0) := (P0_4.out).cell 2
  have cP03 : w4.cell? ⟨w.heap.size, 3, none⟩ = some (.int .i64 t0) := (P0_4.out).cell 3
  have cP04 : w4.cell? ⟨w.heap.size, 4, none⟩ = some (.slice a0 l0.length cap0) := (P0_4.out).cell 4
  go_wp2_with fail
  refine (GrpG.specGroup_any n0 b0 t0 _ _ key0 _ _ l0 _ _ l1 _ S_4.out.key.rd Q0k.out.1 Q0k.out.2 (rdP S_4.out SP.out).rd K0.out.2.1 F0.out N0.out (heldS_reads Tk_4.out Th.out) M1.out).mono ?_
  rintro e w5 ⟨rfl, hb⟩
  have B5 : Hid (Below w.heap.size w w5) := grow_on B4.out hb
  have Z5 : Hid (w4.heap.size ≤ w5.heap.size) := hb.size
  have P0_5 : Hid (Blk w5 w.heap.size #[.int .i64 n0, .slice ka0 key0.length kc0, .int .i64 b0, .int .i64 t0, .slice a0 l0.length cap0] 58) := P0_4.out.grow hb
  have S_5 : Hid (GB w2.heap.size w5 SK key0 SM 0 Sr) := S_4.out.grow hb
  have Tk_5 : Hid (Blk w5 w3.heap.size Tcs 9) := Tk_4.out.grow hb
  clear hb cP00 cP01 cP02 cP03 cP04
  have cP00 : w5.cell? ⟨w.heap.size, 0, none⟩ = some (.int .i64 n0) := (P0_5.out).cell 0
  have cP01 : w5.cell? ⟨w.heap.size, 1, none⟩ = some (.slice ka0 key0.length kc0) := (P0_5.out).cell 1
  have cP02 : w5.cell? ⟨w.heap.size, 2, none⟩ = some (.int .i64 b0) := (P0_5.out).cell 2
  have cP03 : w5.cell? ⟨w.heap.size, 3, none⟩ = some (.int .i64 t0) := (P0_5.out).cell 3
  have cP04 : w5.cell? ⟨w.heap.size, 4, none⟩ = some (.slice a0 l0.length cap0) := (P0_5.out).cell 4
  go_wp2_with fail
  refine (Grp.toGroup_any n0 b0 t0 ka0 kc0 key0 a0 cap0 l0 _ (U0.out.below B5.out) K0.out.1 (R0.out.below B5.out) K0.out.2.1 K0.out.2.2.1).mono ?_
  rintro e w6 ⟨⟨XK, XM, Xr, rfl, hG, hA, hP⟩, hb⟩
  have X_6 : Hid (GB w5.heap.size w6 XK key0 XM 0 Xr) := hG.down (by first | omega | (simp; omega))
  have XP : Hid (pals Xr = l0) := hP
  have XR : Hid (∀ k, gblks XK XM Xr k → w5.heap.size + 2 < k ∧ k < w6.heap.size) := fun k hk => by have := hG.rng k hk; (try simp at this); omega
  have XL : Hid (∀ x ∈ Xr, x.2.2.l.length ≤ 1048576) := hG.len
  clear hG hA hP
  have B6 : Hid (Below w.heap.size w w6) := grow_on B5.out hb
  have Z6 : Hid (w5.heap.size ≤ w6.heap.size) := hb.size
  have P0_6 : Hid (Blk w6 w.heap.size #[.int .i64 n0, .slice ka0 key0.length kc0, .int .i64 b0, .int .i64 t0, .slice a0 l0.length cap0] 58) := P0_5.out.grow hb
  clear hb cP00 cP01 cP02 cP03 cP04
  have cP00 : (w6.alloc (.cells #[.int .i64 n0, .slice (some ⟨XK, 0, none⟩) key0.length key0.length, .int .i64 b0, .int .i64 t0, .slice (some ⟨XM, 0, none⟩) l0.length l0.length] 27)).cell? ⟨w.heap.size, 0, none⟩ = some (.int .i64 n0) := ((P0_6.out.alloc _)).cell 0
  have cP01 : (w6.alloc (.cells #[.int .i64 n0, .slice (some ⟨XK, 0, none⟩) key0.length key0.length, .int .i64 b0, .int .i64 t0, .slice (some ⟨XM, 0, none⟩) l0.length l0.length] 27)).cell? ⟨w.heap.size, 1, none⟩ = some (.slice ka0 key0.length kc0) := ((P0_6.out.alloc _)).cell 1
  have cP02 : (w6.alloc (.cells #[.int .i64 n0, .slice (some ⟨XK, 0, none⟩) key0.length key0.length, .int .i64 b0, .int .i64 t0, .slice (some ⟨XM, 0, none⟩) l0.length l0.length] 27)).cell? ⟨w.heap.size, 2, none⟩ = some (.int .i64 b0) := ((P0_6.out.alloc _)).cell 2
  have cP03 : (w6.alloc (.cells #[.int .i64 n0, .slice (some ⟨XK, 0, none⟩) key0.length key0.length, .int .i64 b0, .int .i64 t0, .slice (some ⟨XM, 0, none⟩) l0.length l0.length] 27)).cell? ⟨w.heap.size, 3, none⟩ = some (.int .i64 t0) := ((P0_6.out.alloc _)).cell 3
  have cP04 : (w6.alloc (.cells #[.int .i64 n0, .slice (some ⟨XK, 0, none⟩) key0.length key0.length, .int .i64 b0, .int .i64 t0, .slice (some ⟨XM, 0, none⟩) l0.length l0.length] 27)).cell? ⟨w.heap.size, 4, none⟩ = some (.slice a0 l0.length cap0) := ((P0_6.out.alloc _)).cell 4
  go_wp2_with fail
  refine (StrT.to_any a1 cap1 l1 _ (R1.out.below (grow_on B6.out (Go.Joins.below_alloc1 w6 _))) K1.out).mono ?_
  rintro e w7 ⟨rfl, ⟨Ycs, hk, hs, hh⟩, hb⟩
  have Yk_7 : Hid (Blk w7 (w6.heap.size + 1) Ycs 9) := by show Blk _ _ _ _; simpa using hk
  have Yh : Hid (HeldS Ycs l1) := hh
  clear hk hs hh
  have Q0_7 : Hid (Blk w7 w6.heap.size #[.int .i64 n0, .slice (some ⟨XK, 0, none⟩) key0.length key0.length, .int .i64 b0, .int .i64 t0, .slice (some ⟨XM, 0, none⟩) l0.length l0.length] 27) := (Blk.new _ _ _).grow hb
  have U_Q0 : Hid (w6.heap.size ≤ w6.heap.size ∧ w6.heap.size < w7.heap.size) := ⟨by omega, Q0_7.out.lt⟩
  replace hb := grow_on (Go.Joins.below_alloc1 w6 _) hb
  have B7 : Hid (Below w.heap.size w w7) := grow_on B6.out hb
  have Z7 : Hid (w6.heap.size ≤ w7.heap.size) := hb.size
  have P0_7 : Hid (Blk w7 w.heap.size #[.int .i64 n0, .slice ka0 key0.length kc0, .int .i64 b0, .int .i64 t0, .slice a0 l0.length cap0] 58) := P0_6.out.grow hb
  have X_7 : Hid (GB w5.heap.size w7 XK key0 XM 0 Xr) := X_6.out.grow hb
  clear hb cP00 cP01 cP02 cP03 cP04
  have cP00 : w7.cell? ⟨w.heap.size, 0, none⟩ = some (.int .i64 n0) := (P0_7.out).cell 0
  have cP01 : w7.cell? ⟨w.heap.size, 1, none⟩ = some (.slice ka0 key0.length kc0) := (P0_7.out).cell 1
  have cP02 : w7.cell? ⟨w.heap.size, 2, none⟩ = some (.int .i64 b0) := (P0_7.out).cell 2
  have cP03 : w7.cell? ⟨w.heap.size, 3, none⟩ = some (.int .i64 t0) := (P0_7.out).cell 3
  have cP04 : w7.cell? ⟨w.heap.size, 4, none⟩ = some (.slice a0 l0.length cap0) := (P0_7.out).cell 4
  have cQ00 : w7.cell? ⟨w6.heap.size, 0, none⟩ = some (.int .i64 n0) := (Q0_7.out).cell 0
  have cQ01 : w7.cell? ⟨w6.heap.size, 1, none⟩ = some (.slice (some ⟨XK, 0, none⟩) key0.length key0.length) := (Q0_7.out).cell 1
  have cQ02 : w7.cell? ⟨w6.heap.size, 2, none⟩ = some (.int .i64 b0) := (Q0_7.out).cell 2
  have cQ03 : w7.cell? ⟨w6.heap.size, 3, none⟩ = some (.int .i64 t0) := (Q0_7.out).cell 3
  have cQ04 : w7.cell? ⟨w6.heap.size, 4, none⟩ = some (.slice (some ⟨XM, 0, none⟩) l0.length l0.length) := (Q0_7.out).cell 4
  go_wp2_with fail
  refine (GrpI.implGroup_any n0 b0 t0 _ _ key0 _ _ l0 _ _ l1 _ X_7.out.key.rd Q0k.out.1 Q0k.out.2 (rdP X_7.out XP.out).rd K0.out.2.1 F0.out N0.out (heldS_reads Yk_7.out Yh.out) M1.out).mono ?_
  rintro e w8 ⟨rfl, hb⟩
  have B8 : Hid (Below w.heap.size w w8) := grow_on B7.out hb
  have Z8 : Hid (w7.heap.size ≤ w8.heap.size) := hb.size
  have P0_8 : Hid (Blk w8 w.heap.size #[.int .i64 n0, .slice ka0 key0.length kc0, .int .i64 b0, .int .i64 t0, .slice a0 l0.length cap0] 58) := P0_7.out.grow hb
  have X_8 : Hid (GB w5.heap.size w8 XK key0 XM 0 Xr) := X_7.out.grow hb
  have Q0_8 : Hid (Blk w8 w6.heap.size #[.int .i64 n0, .slice (some ⟨XK, 0, none⟩) key0.length key0.length, .int .i64 b0, .int .i64 t0, .slice (some ⟨XM, 0, none⟩) l0.length l0.length] 27) := Q0_7.out.grow hb
  have Yk_8 : Hid (Blk w8 (w6.heap.size + 1) Ycs 9) := Yk_7.out.grow hb
  clear hb cP00 cP01 cP02 cP03 cP04 cQ00 cQ01 cQ02 cQ03 cQ04
  have cP00 : w8.cell? ⟨w.heap.size, 0, none⟩ = some (.int .i64 n0) := (P0_8.out).cell 0
  have cP01 : w8.cell? ⟨w.heap.size, 1, none⟩ = some (.slice ka0 key0.length kc0) := (P0_8.out).cell 1
  have cP02 : w8.cell? ⟨w.heap.size, 2, none⟩ = some (.int .i64 b0) := (P0_8.out).cell 2
  have cP03 : w8.cell? ⟨w.heap.size, 3, none⟩ = some (.int .i64 t0) := (P0_8.out).cell 3
  have cP04 : w8.cell? ⟨w.heap.size, 4, none⟩ = some (.slice a0 l0.length cap0) := (P0_8.out).cell 4
  have cQ00 : w8.cell? ⟨w6.heap.size, 0, none⟩ = some (.int .i64 n0) := (Q0_8.out).cell 0
  have cQ01 : w8.cell? ⟨w6.heap.size, 1, none⟩ = some (.slice (some ⟨XK, 0, none⟩) key0.length key0.length) := (Q0_8.out).cell 1
  have cQ02 : w8.cell? ⟨w6.heap.size, 2, none⟩ = some (.int .i64 b0) := (Q0_8.out).cell 2
  have cQ03 : w8.cell? ⟨w6.heap.size, 3, none⟩ = some (.int .i64 t0) := (Q0_8.out).cell 3
  have cQ04 : w8.cell? ⟨w6.heap.size, 4, none⟩ = some (.slice (some ⟨XM, 0, none⟩) l0.length l0.length) := (Q0_8.out).cell 4
  go_wp2
  have kz : Below w8.heap.size w8 w8.drew := (Below.refl _ _).drew
  have kP0 := P0_8.out.lt
  have kQ0 := Q0_8.out.lt
  have HS : Hid (∀ w', Below w8.heap.size w8 w' → Below w8.heap.size w8 w' ∧ w'.cell? ⟨w.heap.size, 0, none⟩ = some (.int .i64 n0) ∧ w'.cell? ⟨w.heap.size, 1, none⟩ = some (.slice ka0 key0.length kc0) ∧ w'.cell? ⟨w.heap.size, 2, none⟩ = some (.int .i64 b0) ∧ w'.cell? ⟨w.heap.size, 3, none⟩ = some (.int .i64 t0) ∧ w'.cell? ⟨w.heap.size, 4, none⟩ = some (.slice a0 l0.length cap0) ∧ w'.cell? ⟨w6.heap.size, 0, none⟩ = some (.int .i64 n0) ∧ w'.cell? ⟨w6.heap.size, 1, none⟩ = some (.slice (some ⟨XK, 0, none⟩) key0.length key0.length) ∧ w'.cell? ⟨w6.heap.size, 2, none⟩ = some (.int .i64 b0) ∧ w'.cell? ⟨w6.heap.size, 3, none⟩ = some (.int .i64 t0) ∧ w'.cell? ⟨w6.heap.size, 4, none⟩ = some (.slice (some ⟨XM, 0, none⟩) l0.length l0.length)) := fun w' h => ⟨h, (h.cell kP0).trans cP00, (h.cell kP0).trans cP01, (h.cell kP0).trans cP02, (h.cell kP0).trans cP03, (h.cell kP0).trans cP04, (h.cell kQ0).trans cQ00, (h.cell kQ0).trans cQ01, (h.cell kQ0).trans cQ02, (h.cell kQ0).trans cQ03, (h.cell kQ0).trans cQ04⟩
  go_region_held3 (fun w' => Below w8.heap.size w8 w' ∧ w'.cell? ⟨w.heap.size, 0, none⟩ = some (.int .i64 n0) ∧ w'.cell? ⟨w.heap.size, 1, none⟩ = some (.slice ka0 key0.length kc0) ∧ w'.cell? ⟨w.heap.size, 2, none⟩ = some (.int .i64 b0) ∧ w'.cell? ⟨w.heap.size, 3, none⟩ = some (.int .i64 t0) ∧ w'.cell? ⟨w.heap.size, 4, none⟩ = some (.slice a0 l0.length cap0) ∧ w'.cell? ⟨w6.heap.size, 0, none⟩ = some (.int .i64 n0) ∧ w'.cell? ⟨w6.heap.size, 1, none⟩ = some (.slice (some ⟨XK, 0, none⟩) key0.length key0.length) ∧ w'.cell? ⟨w6.heap.size, 2, none⟩ = some (.int .i64 b0) ∧ w'.cell? ⟨w6.heap.size, 3, none⟩ = some (.int .i64 t0) ∧ w'.cell? ⟨w6.heap.size, 4, none⟩ = some (.slice (some ⟨XM, 0, none⟩) l0.length l0.length)) (first | with_reducible exact HS.out _ kz | with_reducible exact HS.out _ (grow_on kz hy0) | with_reducible exact HS.out _ (grow_on (grow_on kz hy0) hy1) | (go_keep; done)) (first | (go_at_call 33; with_reducible refine (Grp.toGroup_any n0 b0 t0 ka0 kc0 key0 a0 cap0 l0 _ (U0.out.below (grow_on B8.out kz)) K0.out.1 (R0.out.below (grow_on B8.out kz)) K0.out.2.1 K0.out.2.2.1).mono ?_; rintro e wy ⟨⟨EK, EM, Er, rfl, hG, hA, hP⟩, hy0⟩) | (go_at_call 35; refine (Grp.eqGroup_any n0 b0 t0 _ _ _ _ key0 _ _ _ _ l0 _ ((X_8.out.key.rd).below (grow_on kz hy0)) hG.key.rd Q0k.out.1 ((rdP X_8.out XP.out).rd.below (grow_on kz hy0)) (rdP hG hP).rd M0.out F0.out).mono ?_; rintro e w9 ⟨rfl, hy1⟩))
  have hb := (grow_on (grow_on kz hy0) hy1)
  have B9 : Hid (Below w.heap.size w w9) := grow_on B8.out hb
  have Z9 : Hid (w8.heap.size ≤ w9.heap.size) := hb.size
  have P0_9 : Hid (Blk w9 w.heap.size #[.int .i64 n0, .slice ka0 key0.length kc0, .int .i64 b0, .int .i64 t0, .slice a0 l0.length cap0] 58) := P0_8.out.grow hb
  have X_9 : Hid (GB w5.heap.size w9 XK key0 XM 0 Xr) := X_8.out.grow hb
  have Q0_9 : Hid (Blk w9 w6.heap.size #[.int .i64 n0, .slice (some ⟨XK, 0, none⟩) key0.length key0.length, .int .i64 b0, .int .i64 t0, .slice (some ⟨XM, 0, none⟩) l0.length l0.length] 27) := Q0_8.out.grow hb
  have Yk_9 : Hid (Blk w9 (w6.heap.size + 1) Ycs 9) := Yk_8.out.grow hb
  clear hb kz HS hy0 hy1 kP0 kQ0 cP00 cP01 cP02 cP03 cP04 cQ00 cQ01 cQ02 cQ03 cQ04 hG hA hP
  have cP00 : w9.cell? ⟨w.heap.size, 0, none⟩ = some (.int .i64 n0) := (P0_9.out).cell 0
  have cP01 : w9.cell? ⟨w.heap.size, 1, none⟩ = some (.slice ka0 key0.length kc0) := (P0_9.out).cell 1
  have cP02 : w9.cell? ⟨w.heap.size, 2, none⟩ = some (.int .i64 b0) := (P0_9.out).cell 2
  have cP03 : w9.cell? ⟨w.heap.size, 3, none⟩ = some (.int .i64 t0) := (P0_9.out).cell 3
  have cP04 : w9.cell? ⟨w.heap.size, 4, none⟩ = some (.slice a0 l0.length cap0) := (P0_9.out).cell 4
  have cQ00 : w9.cell? ⟨w6.heap.size, 0, none⟩ = some (.int .i64 n0) := (Q0_9.out).cell 0
  have cQ01 : w9.cell? ⟨w6.heap.size, 1, none⟩ = some (.slice (some ⟨XK, 0, none⟩) key0.length key0.length) := (Q0_9.out).cell 1
  have cQ02 : w9.cell? ⟨w6.heap.size, 2, none⟩ = some (.int .i64 b0) := (Q0_9.out).cell 2
  have cQ03 : w9.cell? ⟨w6.heap.size, 3, none⟩ = some (.int .i64 t0) := (Q0_9.out).cell 3
  have cQ04 : w9.cell? ⟨w6.heap.size, 4, none⟩ = some (.slice (some ⟨XM, 0, none⟩) l0.length l0.length) := (Q0_9.out).cell 4
  go_wp2_with fail
  refine (StrT.to_any a1 cap1 l1 _ (R1.out.below B9.out) K1.out).mono ?_
  rintro e w10 ⟨rfl, ⟨Zcs, hk, hs, hh⟩, hb⟩
  have Zk_10 : Hid (Blk w10 w9.heap.size Zcs 9) := hk
  have Zh : Hid (HeldS Zcs l1) := hh
  clear hk hs hh
  have B10 : Hid (Below w.heap.size w w10) := grow_on B9.out hb
  have Z10 : Hid (w9.heap.size ≤ w10.heap.size) := hb.size
  have P0_10 : Hid (Blk w10 w.heap.size #[.int .i64 n0, .slice ka0 key0.length kc0, .int .i64 b0, .int .i64 t0, .slice a0 l0.length cap0] 58) := P0_9.out.grow hb
  have X_10 : Hid (GB w5.heap.size w10 XK key0 XM 0 Xr) := X_9.out.grow hb
  have Q0_10 : Hid (Blk w10 w6.heap.size #[.int .i64 n0, .slice (some ⟨XK, 0, none⟩) key0.length key0.length, .int .i64 b0, .int .i64 t0, .slice (some ⟨XM, 0, none⟩) l0.length l0.length] 27) := Q0_9.out.grow hb
  have Yk_10 : Hid (Blk w10 (w6.heap.size + 1) Ycs 9) := Yk_9.out.grow hb
  clear hb cP00 cP01 cP02 cP03 cP04 cQ00 cQ01 cQ02 cQ03 cQ04
  have cP00 : w10.cell? ⟨w.heap.size, 0, none⟩ = some (.int .i64 n0) := (P0_10.out).cell 0
  have cP01 : w10.cell? ⟨w.heap.size, 1, none⟩ = some (.slice ka0 key0.length kc0) := (P0_10.out).cell 1
  have cP02 : w10.cell? ⟨w.heap.size, 2, none⟩ = some (.int .i64 b0) := (P0_10.out).cell 2
  have cP03 : w10.cell? ⟨w.heap.size, 3, none⟩ = some (.int .i64 t0) := (P0_10.out).cell 3
  have cP04 : w10.cell? ⟨w.heap.size, 4, none⟩ = some (.slice a0 l0.length cap0) := (P0_10.out).cell 4
  have cQ00 : w10.cell? ⟨w6.heap.size, 0, none⟩ = some (.int .i64 n0) := (Q0_10.out).cell 0
  have cQ01 : w10.cell? ⟨w6.heap.size, 1, none⟩ = some (.slice (some ⟨XK, 0, none⟩) key0.length key0.length) := (Q0_10.out).cell 1
  have cQ02 : w10.cell? ⟨w6.heap.size, 2, none⟩ = some (.int .i64 b0) := (Q0_10.out).cell 2
  have cQ03 : w10.cell? ⟨w6.heap.size, 3, none⟩ = some (.int .i64 t0) := (Q0_10.out).cell 3
  have cQ04 : w10.cell? ⟨w6.heap.size, 4, none⟩ = some (.slice (some ⟨XM, 0, none⟩) l0.length l0.length) := (Q0_10.out).cell 4
  go_wp2_with fail
  refine (StrT.eq_any _ _ _ _ l1 _ (heldS_reads Yk_10.out Yh.out) (heldS_reads Zk_10.out Zh.out) M1.out).mono ?_
  rintro e w11 ⟨rfl, hb⟩
  have B11 : Hid (Below w.heap.size w w11) := grow_on B10.out hb
  have Z11 : Hid (w10.heap.size ≤ w11.heap.size) := hb.size
  have P0_11 : Hid (Blk w11 w.heap.size #[.int .i64 n0, .slice ka0 key0.length kc0, .int .i64 b0, .int .i64 t0, .slice a0 l0.length cap0] 58) := P0_10.out.grow hb
  have X_11 : Hid (GB w5.heap.size w11 XK key0 XM 0 Xr) := X_10.out.grow hb
  have Q0_11 : Hid (Blk w11 w6.heap.size #[.int .i64 n0, .slice (some ⟨XK, 0, none⟩) key0.length key0.length, .int .i64 b0, .int .i64 t0, .slice (some ⟨XM, 0, none⟩) l0.length l0.length] 27) := Q0_10.out.grow hb
  have Yk_11 : Hid (Blk w11 (w6.heap.size + 1) Ycs 9) := Yk_10.out.grow hb
  have Zk_11 : Hid (Blk w11 w9.heap.size Zcs 9) := Zk_10.out.grow hb
  clear hb cP00 cP01 cP02 cP03 cP04 cQ00 cQ01 cQ02 cQ03 cQ04
  have cP00 : w11.cell? ⟨w.heap.size, 0, none⟩ = some (.int .i64 n0) := (P0_11.out).cell 0
  have cP01 : w11.cell? ⟨w.heap.size, 1, none⟩ = some (.slice ka0 key0.length kc0) := (P0_11.out).cell 1
  have cP02 : w11.cell? ⟨w.heap.size, 2, none⟩ = some (.int .i64 b0) := (P0_11.out).cell 2
  have cP03 : w11.cell? ⟨w.heap.size, 3, none⟩ = some (.int .i64 t0) := (P0_11.out).cell 3
  have cP04 : w11.cell? ⟨w.heap.size, 4, none⟩ = some (.slice a0 l0.length cap0) := (P0_11.out).cell 4
  have cQ00 : w11.cell? ⟨w6.heap.size, 0, none⟩ = some (.int .i64 n0) := (Q0_11.out).cell 0
  have cQ01 : w11.cell? ⟨w6.heap.size, 1, none⟩ = some (.slice (some ⟨XK, 0, none⟩) key0.length key0.length) := (Q0_11.out).cell 1
  have cQ02 : w11.cell? ⟨w6.heap.size, 2, none⟩ = some (.int .i64 b0) := (Q0_11.out).cell 2
  have cQ03 : w11.cell? ⟨w6.heap.size, 3, none⟩ = some (.int .i64 t0) := (Q0_11.out).cell 3
  have cQ04 : w11.cell? ⟨w6.heap.size, 4, none⟩ = some (.slice (some ⟨XM, 0, none⟩) l0.length l0.length) := (Q0_11.out).cell 4
  go_wp2
  go_ret
  exact ⟨rfl, B11.out⟩
theorem own : ownKnob Try.prog.godebug = none := by kernel_rfl
theorem laidOut : laidOutB Try.prog = true := by kernel_rfl
set_option maxRecDepth 100000 in
theorem lifted (os : Os) (started : os.Started) (H : Type) (enc : TypeId × Value → H) :
    ReturnsInHanded {} Try.checked os 4 .any (Rows.fnExactGroupOkSpec.pre6 enc Try.prog Try.f4 Rows.fnExactGroupOkRow.domain false) (Rows.fnExactGroupOkSpec.post enc Try.prog Try.f4 false true false false) := by
  refine returnsInHanded_of_change (C := Try.checked) own started (by kernel_rfl) Try.func4
    (ChangeSpec.witness6 (enc := enc) (C := Try.checked) false ⟨#[], #[.agg #[.int .i64 0, .slice none 0 0, .int .i64 0, .int .i64 0, .slice none 0 0], .slice none 0 0], []⟩ 8 (by kernel_rfl) (by kernel_rfl) (by kernel_rfl) (by kernel_rfl)) ?_
  intro W base args ds gs before hval0 hW hcnd _
  have hval : ∀ (j : Nat) t v, Try.f4.params[j]? = some t → args[j]? = some v → Value.okWide Try.prog W .any base t v := hval0
  have hW' := hW
  obtain ⟨p, q, hA0, hV, rfl, hfz, hnd⟩ := hW
  have hA : DataW.TrodAll enc Try.prog W 0 (fun _ => true) true Try.f4.params.toList args.toList ds p := hA0
  rw [Try.params4] at hA hval
  obtain ⟨v0, vs0, d0, ds0, p0, q0, hargs, rfl, rfl, h0, r0⟩ := trodAll_cons hA
  obtain ⟨v1, vs1, d1, ds1, p1, q1, rfl, rfl, rfl, h1, r1⟩ := trodAll_cons r0
  obtain ⟨rfl, rfl, rfl⟩ := trodAll_nil r1
  obtain rfl : args = #[v0, v1] := by cases args; simp_all
  obtain ⟨rfl, rfl⟩ := trodVars_none hV
  have k0 := h0
  have lt0 : ∀ x ∈ p0, x.block < W.heap.size := by obtain ⟨m, hm⟩ := k0; exact DataW.trod_lt m _ _ _ hm
  obtain ⟨n0, b0, t0, ka0, kc0, key0, a0, cap0, l0, rfl, u0, q0, y0, w0, m0, z0, xn0, xb0, xt0⟩ := Go.Proofs.Ytekcmpjjfnijmaa.Grp.open_group (hval 0 58 v0 rfl rfl) h0
  obtain ⟨a1, len1, cap1, rfl⟩ := okWide_slice Try.underlying39 (hval 1 39 v1 rfl rfl)
  have k1 := h1
  have lt1 : ∀ x ∈ p1, x.block < W.heap.size := by obtain ⟨m, hm⟩ := k1; exact DataW.trod_lt m _ _ _ hm
  obtain ⟨l1, rfl, w1, m1, f1⟩ := Go.Proofs.Ytekcmpjjfnijmaa.StrT.open_strs h1
  clear hA0 hval0
  refine (walk n0 b0 t0 ka0 kc0 key0 a0 cap0 l0 a1 cap1 l1 W u0 q0 y0 w0 m0 z0 w1 m1 f1).mono fun e W' ⟨he, bel⟩ => ?_
  subst he
  exact ⟨_, rfl, _, _, _, [], _, [], hW', trodAll_mk1 (shut_bool Try.underlying4 _), (trodAll_cons_mk (Below.trod laidOut (by kernel_rfl) (of_decide_eq_true (by kernel_rfl)) k0 bel lt0) (trodAll_cons_mk (Below.trod laidOut (by kernel_rfl) (of_decide_eq_true (by kernel_rfl)) k1 bel lt1) trodAll_mk0)), rfl, bel.frame _, fun h => by cases h⟩

theorem over : Rows.fnExactGroupOkRow.holds Try.pinned (OpenSpec.ofChange Rows.fnExactGroupOkSpec) :=
  OpenClaim.holds_of_wide 4 Try.f4 rfl rfl rfl rfl rfl rfl rfl ⟨rfl, rfl, rfl, rfl, rfl⟩ rfl rfl rfl rfl rfl (by kernel_rfl) Try.func4 (by kernel_rfl)
    (of_decide_eq_true (by kernel_rfl)) (by unfold Func.isWrapper; first | (rw [if_pos (by decide +kernel)]; kernel_rfl) | (rw [if_neg (by decide +kernel)]; exact ⟨rfl, rfl⟩))
    (fun os started H enc _ => lifted os started H enc)

end Go.Proofs.Ytekcmpjjfnijmaa.FnExactGroupOk
namespace Go.Proofs.Ytekcmpjjfnijmaa
theorem fnExactGroupOk_holds : Rows.FnExactGroupOkSaid := FnExactGroupOk.over
#print axioms fnExactGroupOk_holds
end Go.Proofs.Ytekcmpjjfnijmaa
