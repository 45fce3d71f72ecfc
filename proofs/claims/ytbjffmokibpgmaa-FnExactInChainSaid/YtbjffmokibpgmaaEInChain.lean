/-
  PROVED: at every chain and every slice of labels impl.InChain answers as spec.InChain and leaves them as they were, so the law laws.FnExactInChain returns true, whatever its arguments. No condition.
-/
import Derived.Test.YtbjffmokibpgmaaRows
import Derived.WalkKit
import Derived.ProofKit
import Derived.OpenShut
import Derived.ShutString
import Derived.ChangeOld
import Derived.Below
import Derived.WalkLawsBesides
import Derived.WalkSpells
import Derived.Test.YtbjffmokibpgmaaChnK
import Derived.Deep.RegionHeld3
namespace Go.Proofs.Ytbjffmokibpgmaa.FnExactInChain
open Go.ChangeShapes Go.WideShapes Go.ChangeAt Go.RowKit
open Go.ChangeMaps (open_string shut_string)
set_option linter.unusedVariables false

open Go.Proofs.Ytbjffmokibpgmaa.Labs Go.Proofs.Ytbjffmokibpgmaa.LabS Go.Proofs.Ytbjffmokibpgmaa.Over Go.Proofs.Ytbjffmokibpgmaa.Blk Go.Proofs.Ytbjffmokibpgmaa.Alms Go.Proofs.Ytbjffmokibpgmaa.Rws Go.Proofs.Ytbjffmokibpgmaa.ChnC Go.Proofs.Ytbjffmokibpgmaa.ChnK
open Go.Proofs.Ytbjffmokibpgmaa.Alm (AlIn)
open Go.Proofs.Ytbjffmokibpgmaa.LabT (held_reads)
theorem rdP {lo : Nat} {w : World} {M c : Nat} {rs : List ARow} {P : List PAl} (h : AB lo w M c rs) (hp : pals rs = P) : RdN w (some ⟨M, 0, none⟩) P := by have := h.rd; rwa [hp] at this
set_option maxRecDepth 100000 in
set_option maxHeartbeats 4000000 in
theorem walk (f0 : Int) (a0 : Option Addr) (cap0 : Nat) (l0 : List PAl) (a1 : Option Addr) (cap1 : Nat) (l1 : List Lab) (w : World) (r0 : RdA w a0 l0) (m0 : l0.length ≤ maxLen) (z0 : FitsP l0) (r1 : Reads w a1 l1) (m1 : l1.length ≤ maxLen) (z1 : LabT.Fits l1) :
    Calls Try.prog 6 #[.agg #[.int .i64 f0, .slice a0 l0.length cap0], .slice a1 l1.length cap1] w fun e w' => e = .returned (.bool true) ∧ Below w.heap.size w w' := by
  have R0 : Hid (RdA w a0 l0) := r0
  have M0 : Hid (l0.length ≤ maxLen) := m0
  have F0 : Hid (FitsP l0) := z0
  clear r0 m0 z0
  have R1 : Hid (Reads w a1 l1) := r1
  have M1 : Hid (l1.length ≤ maxLen) := m1
  have F1 : Hid (LabT.Fits l1) := z1
  clear r1 m1 z1
  have B0 : Hid (Below w.heap.size w w) := Below.refl _ _
  go_enter Try.func6, Try.ntmps6
  go_wp2_with fail
  refine (szC_any f0 a0 cap0 l0 1048576 _ (R0.out.below (grow_on B0.out (Go.Joins.below_alloc1 w _))) M0.out F0.out (by omega) (by omega)).mono ?_
  rintro e w1 ⟨⟨k0, rfl, p0, hn⟩, hb⟩
  have P0_1 : Hid (Blk w1 w.heap.size #[.int .i64 f0, .slice a0 l0.length cap0] 51) := (Blk.new _ _ _).grow hb
  have U_P0 : Hid (w.heap.size ≤ w.heap.size ∧ w.heap.size < w1.heap.size) := ⟨by omega, P0_1.out.lt⟩
  replace hb := grow_on (Go.Joins.below_alloc1 w _) hb
  have B1 : Hid (Below w.heap.size w w1) := grow_on B0.out hb
  have Z1 : Hid (w.heap.size ≤ w1.heap.size) := hb.size
  clear hb
  by_cases g0 : k0 < 0
  · clear hn
    go_wp2
    go_ret
    exact ⟨rfl, B1.out⟩
  have K0 : Hid (l0.length ≤ 1048576 ∧ sumL l0 ≤ 1048576 ∧ l0.length + sumL l0 ≤ 1048576) := by have := hn (by omega); exact ⟨by omega, by omega, by omega⟩
  have N0 : Hid (LenM l0) := fun q hq => Nat.le_trans (sum_nth hq) K0.out.2.1
  clear hn
  have cP00 : w1.cell? ⟨w.heap.size, 0, none⟩ = some (.int .i64 f0) := (P0_1.out).cell 0
  have cP01 : w1.cell? ⟨w.heap.size, 1, none⟩ = some (.slice a0 l0.length cap0) := (P0_1.out).cell 1
  go_wp2_with fail
  refine (LabT.sz_any a1 cap1 l1 k0 _ (R1.out.below B1.out) M1.out F1.out (by omega) (by omega)).mono ?_
  rintro e w2 ⟨⟨k1, rfl, p1, hn⟩, hb⟩
  have B2 : Hid (Below w.heap.size w w2) := grow_on B1.out hb
  have Z2 : Hid (w1.heap.size ≤ w2.heap.size) := hb.size
  have P0_2 : Hid (Blk w2 w.heap.size #[.int .i64 f0, .slice a0 l0.length cap0] 51) := P0_1.out.grow hb
  clear hb cP00 cP01
  by_cases g1 : k1 < 0
  · clear hn
    go_wp2
    go_ret
    exact ⟨rfl, B2.out⟩
  have K1 : Hid (l1.length ≤ 1048576) := by have := hn (by omega); show l1.length ≤ 1048576; omega
  clear hn
  have cP00 : w2.cell? ⟨w.heap.size, 0, none⟩ = some (.int .i64 f0) := (P0_2.out).cell 0
  have cP01 : w2.cell? ⟨w.heap.size, 1, none⟩ = some (.slice a0 l0.length cap0) := (P0_2.out).cell 1
  go_wp2_with fail
  refine (toC_any f0 a0 cap0 l0 _ (R0.out.below B2.out) K0.out.1 K0.out.2.1).mono ?_
  rintro e w3 ⟨⟨SM, Sr, rfl, hA, hP⟩, hb⟩
  have S_3 : Hid (AB w2.heap.size w3 SM l0.length Sr) := hA.down (by first | exact Nat.le_refl _ | simp)
  have SP : Hid (pals Sr = l0) := hP
  have U_S : Hid (w2.heap.size ≤ SM ∧ SM < w3.heap.size) := ⟨S_3.out.at', S_3.out.lt⟩
  clear hA hP
  have B3 : Hid (Below w.heap.size w w3) := grow_on B2.out hb
  have Z3 : Hid (w2.heap.size ≤ w3.heap.size) := hb.size
  have P0_3 : Hid (Blk w3 w.heap.size #[.int .i64 f0, .slice a0 l0.length cap0] 51) := P0_2.out.grow hb
  clear hb cP00 cP01
  have cP00 : w3.cell? ⟨w.heap.size, 0, none⟩ = some (.int .i64 f0) := (P0_3.out).cell 0
  have cP01 : w3.cell? ⟨w.heap.size, 1, none⟩ = some (.slice a0 l0.length cap0) := (P0_3.out).cell 1
  go_wp2_with fail
  refine (LabT.to_any a1 cap1 l1 _ (R1.out.below B3.out) K1.out).mono ?_
  rintro e w4 ⟨rfl, ⟨Tcs, hk, hs, hh⟩, hb⟩
  have T_4 : Hid (Reads w4 (some ⟨w3.heap.size, 0, none⟩) l1) := held_reads (by first | exact hk | simpa using hk) hh
  clear hk hs hh
  have B4 : Hid (Below w.heap.size w w4) := grow_on B3.out hb
  have Z4 : Hid (w3.heap.size ≤ w4.heap.size) := hb.size
  have P0_4 : Hid (Blk w4 w.heap.size #[.int .i64 f0, .slice a0 l0.length cap0] 51) := P0_3.out.grow hb
  have S_4 : Hid (AB w2.heap.size w4 SM l0.length Sr) := S_3.out.grow hb
  clear hb cP00 cP01
  have cP00 : w4.cell? ⟨w.heap.size, 0, none⟩ = some (.int .i64 f0) := (P0_4.out).cell 0
  have cP01 : w4.cell? ⟨w.heap.size, 1, none⟩ = some (.slice a0 l0.length cap0) := (P0_4.out).cell 1
  go_wp2_with fail
  refine (ChnS.specIn_any f0 _ _ _ _ l0 l1 _ (rdP S_4.out SP.out).rd T_4.out K0.out.1 (ChnP.len_m N0.out) M1.out).mono ?_
  rintro e w5 ⟨rfl, hb⟩
  have B5 : Hid (Below w.heap.size w w5) := grow_on B4.out hb
  have Z5 : Hid (w4.heap.size ≤ w5.heap.size) := hb.size
  have P0_5 : Hid (Blk w5 w.heap.size #[.int .i64 f0, .slice a0 l0.length cap0] 51) := P0_4.out.grow hb
  have S_5 : Hid (AB w2.heap.size w5 SM l0.length Sr) := S_4.out.grow hb
  have T_5 : Hid (Reads w5 (some ⟨w3.heap.size, 0, none⟩) l1) := T_4.out.below hb
  clear hb cP00 cP01
  have cP00 : w5.cell? ⟨w.heap.size, 0, none⟩ = some (.int .i64 f0) := (P0_5.out).cell 0
  have cP01 : w5.cell? ⟨w.heap.size, 1, none⟩ = some (.slice a0 l0.length cap0) := (P0_5.out).cell 1
  go_wp2_with fail
  refine (toC_any f0 a0 cap0 l0 _ (R0.out.below B5.out) K0.out.1 K0.out.2.1).mono ?_
  rintro e w6 ⟨⟨XM, Xr, rfl, hA, hP⟩, hb⟩
  have X_6 : Hid (AB w5.heap.size w6 XM l0.length Xr) := hA.down (by first | exact Nat.le_refl _ | simp)
  have XP : Hid (pals Xr = l0) := hP
  have U_X : Hid (w5.heap.size ≤ XM ∧ XM < w6.heap.size) := ⟨X_6.out.at', X_6.out.lt⟩
  clear hA hP
  have B6 : Hid (Below w.heap.size w w6) := grow_on B5.out hb
  have Z6 : Hid (w5.heap.size ≤ w6.heap.size) := hb.size
  have P0_6 : Hid (Blk w6 w.heap.size #[.int .i64 f0, .slice a0 l0.length cap0] 51) := P0_5.out.grow hb
  clear hb cP00 cP01
  have cP00 : (w6.alloc (.cells #[.int .i64 f0, .slice (some ⟨XM, 0, none⟩) l0.length l0.length] 26)).cell? ⟨w.heap.size, 0, none⟩ = some (.int .i64 f0) := (P0_6.out.alloc _).cell 0
  have cP01 : (w6.alloc (.cells #[.int .i64 f0, .slice (some ⟨XM, 0, none⟩) l0.length l0.length] 26)).cell? ⟨w.heap.size, 1, none⟩ = some (.slice a0 l0.length cap0) := (P0_6.out.alloc _).cell 1
  go_wp2_with fail
  refine (LabT.to_any a1 cap1 l1 _ (R1.out.below (grow_on B6.out (Go.Joins.below_alloc1 w6 _))) K1.out).mono ?_
  rintro e w7 ⟨rfl, ⟨Ycs, hk, hs, hh⟩, hb⟩
  have Y_7 : Hid (Reads w7 (some ⟨(w6.heap.size + 1), 0, none⟩) l1) := held_reads (by first | exact hk | simpa using hk) hh
  clear hk hs hh
  have Q0_7 : Hid (Blk w7 w6.heap.size #[.int .i64 f0, .slice (some ⟨XM, 0, none⟩) l0.length l0.length] 26) := (Blk.new _ _ _).grow hb
  have U_Q0 : Hid (w6.heap.size ≤ w6.heap.size ∧ w6.heap.size < w7.heap.size) := ⟨Nat.le_refl _, Q0_7.out.lt⟩
  replace hb := grow_on (Go.Joins.below_alloc1 w6 _) hb
  have B7 : Hid (Below w.heap.size w w7) := grow_on B6.out hb
  have Z7 : Hid (w6.heap.size ≤ w7.heap.size) := hb.size
  have P0_7 : Hid (Blk w7 w.heap.size #[.int .i64 f0, .slice a0 l0.length cap0] 51) := P0_6.out.grow hb
  have X_7 : Hid (AB w5.heap.size w7 XM l0.length Xr) := X_6.out.grow hb
  clear hb cP00 cP01
  have cP00 : w7.cell? ⟨w.heap.size, 0, none⟩ = some (.int .i64 f0) := (P0_7.out).cell 0
  have cP01 : w7.cell? ⟨w.heap.size, 1, none⟩ = some (.slice a0 l0.length cap0) := (P0_7.out).cell 1
  have cQ00 : w7.cell? ⟨w6.heap.size, 0, none⟩ = some (.int .i64 f0) := (Q0_7.out).cell 0
  have cQ01 : w7.cell? ⟨w6.heap.size, 1, none⟩ = some (.slice (some ⟨XM, 0, none⟩) l0.length l0.length) := (Q0_7.out).cell 1
  go_wp2_with fail
  refine (ChnI.implIn_any f0 _ _ _ _ l0 l1 _ (rdP X_7.out XP.out).rd Y_7.out K0.out.1 (ChnP.len_m N0.out) M1.out).mono ?_
  rintro e w8 ⟨rfl, hb⟩
  have B8 : Hid (Below w.heap.size w w8) := grow_on B7.out hb
  have Z8 : Hid (w7.heap.size ≤ w8.heap.size) := hb.size
  have P0_8 : Hid (Blk w8 w.heap.size #[.int .i64 f0, .slice a0 l0.length cap0] 51) := P0_7.out.grow hb
  have X_8 : Hid (AB w5.heap.size w8 XM l0.length Xr) := X_7.out.grow hb
  have Q0_8 : Hid (Blk w8 w6.heap.size #[.int .i64 f0, .slice (some ⟨XM, 0, none⟩) l0.length l0.length] 26) := Q0_7.out.grow hb
  have Y_8 : Hid (Reads w8 (some ⟨(w6.heap.size + 1), 0, none⟩) l1) := Y_7.out.below hb
  clear hb cP00 cP01 cQ00 cQ01
  have cP00 : w8.cell? ⟨w.heap.size, 0, none⟩ = some (.int .i64 f0) := (P0_8.out).cell 0
  have cP01 : w8.cell? ⟨w.heap.size, 1, none⟩ = some (.slice a0 l0.length cap0) := (P0_8.out).cell 1
  have cQ00 : w8.cell? ⟨w6.heap.size, 0, none⟩ = some (.int .i64 f0) := (Q0_8.out).cell 0
  have cQ01 : w8.cell? ⟨w6.heap.size, 1, none⟩ = some (.slice (some ⟨XM, 0, none⟩) l0.length l0.length) := (Q0_8.out).cell 1
  go_wp2
  have kz : Below w8.heap.size w8 w8.drew := (Below.refl _ _).drew
  have kP0 := P0_8.out.lt
  have kQ0 := Q0_8.out.lt
  have HS : Hid (∀ w', Below w8.heap.size w8 w' → Below w8.heap.size w8 w' ∧ w'.cell? ⟨w.heap.size, 0, none⟩ = some (.int .i64 f0) ∧ w'.cell? ⟨w.heap.size, 1, none⟩ = some (.slice a0 l0.length cap0) ∧ w'.cell? ⟨w6.heap.size, 0, none⟩ = some (.int .i64 f0) ∧ w'.cell? ⟨w6.heap.size, 1, none⟩ = some (.slice (some ⟨XM, 0, none⟩) l0.length l0.length)) := fun w' h => ⟨h, (h.cell kP0).trans cP00, (h.cell kP0).trans cP01, (h.cell kQ0).trans cQ00, (h.cell kQ0).trans cQ01⟩
  go_region_held3 (fun w' => Below w8.heap.size w8 w' ∧ w'.cell? ⟨w.heap.size, 0, none⟩ = some (.int .i64 f0) ∧ w'.cell? ⟨w.heap.size, 1, none⟩ = some (.slice a0 l0.length cap0) ∧ w'.cell? ⟨w6.heap.size, 0, none⟩ = some (.int .i64 f0) ∧ w'.cell? ⟨w6.heap.size, 1, none⟩ = some (.slice (some ⟨XM, 0, none⟩) l0.length l0.length)) (first | with_reducible exact HS.out _ kz | with_reducible exact HS.out _ (grow_on kz hy0) | with_reducible exact HS.out _ (grow_on (grow_on kz hy0) hy1) | (go_keep; done)) (first | (go_at_call 29; with_reducible refine (toC_any f0 a0 cap0 l0 _ (R0.out.below (grow_on B8.out kz)) K0.out.1 K0.out.2.1).mono ?_; rintro e wy ⟨⟨EM, Er, rfl, hA, hP⟩, hy0⟩) | (go_at_call 30; refine (eqC_any f0 _ _ _ _ l0 _ ((rdP X_8.out XP.out).rd.below (grow_on kz hy0)) (rdP hA hP).rd M0.out F0.out).mono ?_; rintro e w9 ⟨rfl, hy1⟩))
  have hb := (grow_on (grow_on kz hy0) hy1)
  have B9 : Hid (Below w.heap.size w w9) := grow_on B8.out hb
  have Z9 : Hid (w8.heap.size ≤ w9.heap.size) := hb.size
  have P0_9 : Hid (Blk w9 w.heap.size #[.int .i64 f0, .slice a0 l0.length cap0] 51) := P0_8.out.grow hb
  have X_9 : Hid (AB w5.heap.size w9 XM l0.length Xr) := X_8.out.grow hb
  have Q0_9 : Hid (Blk w9 w6.heap.size #[.int .i64 f0, .slice (some ⟨XM, 0, none⟩) l0.length l0.length] 26) := Q0_8.out.grow hb
  have Y_9 : Hid (Reads w9 (some ⟨(w6.heap.size + 1), 0, none⟩) l1) := Y_8.out.below hb
  clear hb kz HS hy0 hy1 kP0 kQ0 cP00 cP01 cQ00 cQ01 hA hP
  have cP00 : w9.cell? ⟨w.heap.size, 0, none⟩ = some (.int .i64 f0) := (P0_9.out).cell 0
  have cP01 : w9.cell? ⟨w.heap.size, 1, none⟩ = some (.slice a0 l0.length cap0) := (P0_9.out).cell 1
  go_wp2_with fail
  refine (LabT.to_any a1 cap1 l1 _ (R1.out.below B9.out) K1.out).mono ?_
  rintro e w10 ⟨rfl, ⟨Zcs, hk, hs, hh⟩, hb⟩
  have Z_10 : Hid (Reads w10 (some ⟨w9.heap.size, 0, none⟩) l1) := held_reads (by first | exact hk | simpa using hk) hh
  clear hk hs hh
  have B10 : Hid (Below w.heap.size w w10) := grow_on B9.out hb
  have Z10 : Hid (w9.heap.size ≤ w10.heap.size) := hb.size
  have P0_10 : Hid (Blk w10 w.heap.size #[.int .i64 f0, .slice a0 l0.length cap0] 51) := P0_9.out.grow hb
  have Y_10 : Hid (Reads w10 (some ⟨(w6.heap.size + 1), 0, none⟩) l1) := Y_9.out.below hb
  clear hb cP00 cP01
  have eL : decide (l1 = l1) = true := decide_eq_true rfl
  have cP00 : w10.cell? ⟨w.heap.size, 0, none⟩ = some (.int .i64 f0) := (P0_10.out).cell 0
  have cP01 : w10.cell? ⟨w.heap.size, 1, none⟩ = some (.slice a0 l0.length cap0) := (P0_10.out).cell 1
  go_wp2_with fail
  refine (LabT.eq_any _ _ _ _ l1 l1 _ Y_10.out Z_10.out M1.out M1.out).mono ?_
  rintro e w11 ⟨rfl, hb⟩
  have B11 : Hid (Below w.heap.size w w11) := grow_on B10.out hb
  have Z11 : Hid (w10.heap.size ≤ w11.heap.size) := hb.size
  have P0_11 : Hid (Blk w11 w.heap.size #[.int .i64 f0, .slice a0 l0.length cap0] 51) := P0_10.out.grow hb
  have Y_11 : Hid (Reads w11 (some ⟨(w6.heap.size + 1), 0, none⟩) l1) := Y_10.out.below hb
  have Z_11 : Hid (Reads w11 (some ⟨w9.heap.size, 0, none⟩) l1) := Z_10.out.below hb
  clear hb cP00 cP01
  have cP00 : w11.cell? ⟨w.heap.size, 0, none⟩ = some (.int .i64 f0) := (P0_11.out).cell 0
  have cP01 : w11.cell? ⟨w.heap.size, 1, none⟩ = some (.slice a0 l0.length cap0) := (P0_11.out).cell 1
  go_wp2
  go_ret
  exact ⟨rfl, B11.out⟩
theorem own : ownKnob Try.prog.godebug = none := by kernel_rfl
theorem laidOut : laidOutB Try.prog = true := by kernel_rfl
set_option maxRecDepth 100000 in
theorem lifted (os : Os) (started : os.Started) (H : Type) (enc : TypeId × Value → H) :
    ReturnsInHanded {} Try.checked os 6 .any (Rows.fnExactInChainSpec.pre6 enc Try.prog Try.f6 Rows.fnExactInChainRow.domain false) (Rows.fnExactInChainSpec.post enc Try.prog Try.f6 false true false false) := by
  refine returnsInHanded_of_change (C := Try.checked) own started (by kernel_rfl) Try.func6
    (ChangeSpec.witness6 (enc := enc) (C := Try.checked) false ⟨#[], #[.agg #[.int .i64 0, .slice none 0 0], .slice none 0 0], []⟩ 8 (by kernel_rfl) (by kernel_rfl) (by kernel_rfl) (by kernel_rfl)) ?_
  intro W base args ds gs before hval0 hW hcnd _
  have hval : ∀ (j : Nat) t v, Try.f6.params[j]? = some t → args[j]? = some v → Value.okWide Try.prog W .any base t v := hval0
  have hW' := hW
  obtain ⟨p, q, hA0, hV, rfl, hfz, hnd⟩ := hW
  have hA : DataW.TrodAll enc Try.prog W 0 (fun _ => true) true Try.f6.params.toList args.toList ds p := hA0
  rw [Try.params6] at hA hval
  obtain ⟨v0, vs0, d0, ds0, p0, q0, hargs, rfl, rfl, h0, r0⟩ := trodAll_cons hA
  obtain ⟨v1, vs1, d1, ds1, p1, q1, rfl, rfl, rfl, h1, r1⟩ := trodAll_cons r0
  obtain ⟨rfl, rfl, rfl⟩ := trodAll_nil r1
  obtain rfl : args = #[v0, v1] := by cases args; simp_all
  obtain ⟨rfl, rfl⟩ := trodVars_none hV
  have k0 := h0
  have lt0 : ∀ x ∈ p0, x.block < W.heap.size := by obtain ⟨m, hm⟩ := k0; exact DataW.trod_lt m _ _ _ hm
  obtain ⟨f0, a0, cap0, l0, rfl, w0, m0, z0⟩ := Go.Proofs.Ytbjffmokibpgmaa.ChnK.open_chain (hval 0 51 v0 rfl rfl) h0
  obtain ⟨a1, len1, cap1, rfl⟩ := okWide_slice Try.underlying56 (hval 1 56 v1 rfl rfl)
  have k1 := h1
  have lt1 : ∀ x ∈ p1, x.block < W.heap.size := by obtain ⟨m, hm⟩ := k1; exact DataW.trod_lt m _ _ _ hm
  obtain ⟨l1, rfl, w1, m1, f1⟩ : ∃ l : List (ByteArray × ByteArray), len1 = l.length ∧ Go.Proofs.Ytbjffmokibpgmaa.LabS.Reads W a1 l ∧ l.length ≤ maxLen ∧ Go.Proofs.Ytbjffmokibpgmaa.LabT.Fits l := by
    obtain ⟨fuel, hf⟩ := h1
    exact Go.Proofs.Ytbjffmokibpgmaa.LabT.open_labs (by simpa [Value.cells] using hf)
  clear hA0 hval0
  refine (walk f0 a0 cap0 l0 a1 cap1 l1 W w0 m0 z0 w1 m1 f1).mono fun e W' ⟨he, bel⟩ => ?_
  subst he
  exact ⟨_, rfl, _, _, _, [], _, [], hW', trodAll_mk1 (shut_bool Try.underlying4 _), (trodAll_cons_mk (Below.trod laidOut (by kernel_rfl) (of_decide_eq_true (by kernel_rfl)) k0 bel lt0) (trodAll_cons_mk (Below.trod laidOut (by kernel_rfl) (of_decide_eq_true (by kernel_rfl)) k1 bel lt1) trodAll_mk0)), rfl, bel.frame _, fun h => by cases h⟩

theorem over : Rows.fnExactInChainRow.holds Try.pinned (OpenSpec.ofChange Rows.fnExactInChainSpec) :=
  OpenClaim.holds_of_wide 6 Try.f6 rfl rfl rfl rfl rfl rfl rfl ⟨rfl, rfl, rfl, rfl, rfl⟩ rfl rfl rfl rfl rfl (by kernel_rfl) Try.func6 (by kernel_rfl)
    (of_decide_eq_true (by kernel_rfl)) (by unfold Func.isWrapper; first | (rw [if_pos (by decide +kernel)]; kernel_rfl) | (rw [if_neg (by decide +kernel)]; exact ⟨rfl, rfl⟩))
    (fun os started H enc _ => lifted os started H enc)

end Go.Proofs.Ytbjffmokibpgmaa.FnExactInChain
namespace Go.Proofs.Ytbjffmokibpgmaa
theorem fnExactInChain_holds : Rows.FnExactInChainSaid := FnExactInChain.over
#print axioms fnExactInChain_holds
end Go.Proofs.Ytbjffmokibpgmaa
