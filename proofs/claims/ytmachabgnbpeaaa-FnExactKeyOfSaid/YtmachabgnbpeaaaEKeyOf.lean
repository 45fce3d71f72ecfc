/-
  PROVED: at every alarm and every slice of strings impl.KeyOf answers as spec.KeyOf, leaves them as they were, keeps nothing of them, and its answer lies in memory of its own, so the law laws.FnExactKeyOf returns true, whatever its arguments. No condition.
-/
import Derived.Test.YtmachabgnbpeaaaRows
import Derived.WalkKit
import Derived.ProofKit
import Derived.OpenShut
import Derived.ShutString
import Derived.ChangeOld
import Derived.Below
import Derived.WalkLawsBesides
import Derived.WalkSpells
import Derived.Test.YtmachabgnbpeaaaPro
import Derived.Test.YtmachabgnbpeaaaMark
import Derived.Test.YtmachabgnbpeaaaStrT
import Derived.Test.YtmachabgnbpeaaaAlmK
import Derived.Deep.RegionHeld3
namespace Go.Proofs.Ytmachabgnbpeaaa.FnExactKeyOf
open Go.ChangeShapes Go.WideShapes Go.ChangeAt Go.RowKit
open Go.ChangeMaps (open_string shut_string)
set_option linter.unusedVariables false

open Go.Proofs.Ytmachabgnbpeaaa.Labs Go.Proofs.Ytmachabgnbpeaaa.LabS Go.Proofs.Ytmachabgnbpeaaa.LabT Go.Proofs.Ytmachabgnbpeaaa.Over Go.Proofs.Ytmachabgnbpeaaa.Blk Go.Proofs.Ytmachabgnbpeaaa.Pro Go.Proofs.Ytmachabgnbpeaaa.Mark Go.Proofs.Ytmachabgnbpeaaa.Alm Go.Proofs.Ytmachabgnbpeaaa.AlmK
open Go.Proofs.Ytmachabgnbpeaaa.StrT (FitsS heldS_reads HeldS)
open Go.Proofs.Ytmachabgnbpeaaa.LabR (Own)
set_option maxRecDepth 100000 in
set_option maxHeartbeats 8000000 in
theorem walk (a0 : Option Addr) (cap0 : Nat) (l0 : List Lab) (s0 e0 : Int) (n0 : ByteArray) (a1 : Option Addr) (cap1 : Nat) (l1 : List ByteArray) (w : World) (g0 : AlIn w a0 l0 s0 e0 n0) (r1 : RdS w a1 l1) (m1 : l1.length ≤ maxLen) (f1 : FitsS l1) :
    Calls Try.prog 6 #[.agg #[.slice a0 l0.length cap0, .int .i64 s0, .int .i64 e0, .string n0], .slice a1 l1.length cap1] w fun e w' => e = .returned (.bool true) ∧ Below w.heap.size w w' := by
  have R0 : Hid (Reads w a0 l0) := g0.reads
  have M0 : Hid (l0.length ≤ maxLen) := g0.len
  have G0 : Hid (AlIn w a0 l0 s0 e0 n0) := g0
  clear g0
  have R1 : Hid (RdS w a1 l1) := r1
  have M1 : Hid (l1.length ≤ maxLen) := m1
  have F1 : Hid (FitsS l1) := f1
  clear r1 m1 f1
  have B0 : Hid (Below w.heap.size w w) := Below.refl _ _
  go_enter Try.func6, Try.ntmps6
  go_wp2_with fail
  refine (Go.Proofs.Ytmachabgnbpeaaa.Alm.sz_any a0 cap0 l0 s0 e0 n0 1048576 _ (G0.out.below (grow_on B0.out (Go.Joins.below_alloc1 w _))) (by omega) (by omega)).mono ?_
  rintro e w1 ⟨⟨k0, rfl, p0, hn⟩, hb⟩
  have P0_1 : Hid (Blk w1 w.heap.size #[.slice a0 l0.length cap0, .int .i64 s0, .int .i64 e0, .string n0] 54) := (Blk.new _ _ _).grow hb
  have U_P0 : Hid (w.heap.size ≤ w.heap.size ∧ w.heap.size < w1.heap.size) := ⟨by omega, P0_1.out.lt⟩
  replace hb := grow_on (Go.Joins.below_alloc1 w _) hb
  have B1 : Hid (Below w.heap.size w w1) := grow_on B0.out hb
  have Z1 : Hid (w.heap.size ≤ w1.heap.size) := hb.size
  clear hb
  by_cases g0 : k0 < 0
  · clear hn
    go_wp2
    go_ret
    exact ⟨rfl, B1.out⟩
  have K0 : Hid (l0.length ≤ 1048576) := by have := hn (by omega); show l0.length ≤ 1048576; omega
  clear hn
  have cP00 : w1.cell? ⟨w.heap.size, 0, none⟩ = some (.slice a0 l0.length cap0) := (P0_1.out).cell 0
  have cP01 : w1.cell? ⟨w.heap.size, 1, none⟩ = some (.int .i64 s0) := (P0_1.out).cell 1
  have cP02 : w1.cell? ⟨w.heap.size, 2, none⟩ = some (.int .i64 e0) := (P0_1.out).cell 2
  have cP03 : w1.cell? ⟨w.heap.size, 3, none⟩ = some (.string n0) := (P0_1.out).cell 3
  go_wp2_with fail
  refine (Go.Proofs.Ytmachabgnbpeaaa.StrT.sz_any a1 cap1 l1 k0 _ (R1.out.below B1.out) M1.out F1.out (by omega) (by omega)).mono ?_
  rintro e w2 ⟨⟨k1, rfl, p1, hn⟩, hb⟩
  have B2 : Hid (Below w.heap.size w w2) := grow_on B1.out hb
  have Z2 : Hid (w1.heap.size ≤ w2.heap.size) := hb.size
  have P0_2 : Hid (Blk w2 w.heap.size #[.slice a0 l0.length cap0, .int .i64 s0, .int .i64 e0, .string n0] 54) := P0_1.out.grow hb
  clear hb cP00 cP01 cP02 cP03
  by_cases g1 : k1 < 0
  · clear hn
    go_wp2
    go_ret
    exact ⟨rfl, B2.out⟩
  have K1 : Hid (l1.length ≤ 1048576) := by have := hn (by omega); show l1.length ≤ 1048576; omega
  clear hn
  have KP : Hid ((projB l0 l1).length ≤ 1048576) := Nat.le_trans (proj_len l0 l1) K0.out
  have MP : Hid ((projB l0 l1).length ≤ maxLen) := Nat.le_trans (proj_len l0 l1) M0.out
  have cP00 : w2.cell? ⟨w.heap.size, 0, none⟩ = some (.slice a0 l0.length cap0) := (P0_2.out).cell 0
  have cP01 : w2.cell? ⟨w.heap.size, 1, none⟩ = some (.int .i64 s0) := (P0_2.out).cell 1
  have cP02 : w2.cell? ⟨w.heap.size, 2, none⟩ = some (.int .i64 e0) := (P0_2.out).cell 2
  have cP03 : w2.cell? ⟨w.heap.size, 3, none⟩ = some (.string n0) := (P0_2.out).cell 3
  go_wp2_with fail
  refine (Go.Proofs.Ytmachabgnbpeaaa.Alm.to_any a0 cap0 l0 s0 e0 n0 _ (R0.out.below B2.out) K0.out).mono ?_
  rintro e w3 ⟨⟨SM, Scs, rfl, hXM, hk, hs, hh⟩, hb⟩
  have Sk_3 : Hid (Blk w3 SM Scs 78) := hk
  have Ss : Hid (Scs.size = l0.length * 2) := hs
  have Sh : Hid (Held Scs l0 l0.length) := hh
  have U_Sk : Hid (w2.heap.size ≤ SM ∧ SM < w3.heap.size) := ⟨hXM, hk.lt⟩
  clear hk hs hh hXM
  have B3 : Hid (Below w.heap.size w w3) := grow_on B2.out hb
  have Z3 : Hid (w2.heap.size ≤ w3.heap.size) := hb.size
  have P0_3 : Hid (Blk w3 w.heap.size #[.slice a0 l0.length cap0, .int .i64 s0, .int .i64 e0, .string n0] 54) := P0_2.out.grow hb
  clear hb cP00 cP01 cP02 cP03
  have cP00 : w3.cell? ⟨w.heap.size, 0, none⟩ = some (.slice a0 l0.length cap0) := (P0_3.out).cell 0
  have cP01 : w3.cell? ⟨w.heap.size, 1, none⟩ = some (.int .i64 s0) := (P0_3.out).cell 1
  have cP02 : w3.cell? ⟨w.heap.size, 2, none⟩ = some (.int .i64 e0) := (P0_3.out).cell 2
  have cP03 : w3.cell? ⟨w.heap.size, 3, none⟩ = some (.string n0) := (P0_3.out).cell 3
  go_wp2_with fail
  refine (Go.Proofs.Ytmachabgnbpeaaa.StrT.to_any a1 cap1 l1 _ (R1.out.below B3.out) K1.out).mono ?_
  rintro e w4 ⟨rfl, ⟨Tcs, hk, hs, hh⟩, hb⟩
  have Tk_4 : Hid (Blk w4 w3.heap.size Tcs 9) := hk
  have Ts : Hid (Tcs.size = l1.length) := hs
  have Th : Hid (HeldS Tcs l1) := hh
  have U_Tk : Hid (w3.heap.size ≤ w3.heap.size ∧ w3.heap.size < w4.heap.size) := ⟨Nat.le_refl _, hk.lt⟩
  clear hk hs hh
  have B4 : Hid (Below w.heap.size w w4) := grow_on B3.out hb
  have Z4 : Hid (w3.heap.size ≤ w4.heap.size) := hb.size
  have P0_4 : Hid (Blk w4 w.heap.size #[.slice a0 l0.length cap0, .int .i64 s0, .int .i64 e0, .string n0] 54) := P0_3.out.grow hb
  have Sk_4 : Hid (Blk w4 SM Scs 78) := Sk_3.out.grow hb
  clear hb cP00 cP01 cP02 cP03
  have cP00 : w4.cell? ⟨w.heap.size, 0, none⟩ = some (.slice a0 l0.length cap0) := (P0_4.out).cell 0
  have cP01 : w4.cell? ⟨w.heap.size, 1, none⟩ = some (.int .i64 s0) := (P0_4.out).cell 1
  have cP02 : w4.cell? ⟨w.heap.size, 2, none⟩ = some (.int .i64 e0) := (P0_4.out).cell 2
  have cP03 : w4.cell? ⟨w.heap.size, 3, none⟩ = some (.string n0) := (P0_4.out).cell 3
  go_wp2_with fail
  refine (specKey_any _ _ _ _ l0 s0 e0 n0 l1 _ ((held_reads Sk_4.out Sh.out)) ((heldS_reads Tk_4.out Th.out)) K0.out M1.out).mono ?_
  rintro e w5 ⟨⟨WM, Wc, rfl, hM, Wcs, hk, hs, hh⟩, hb⟩
  have Wk_5 : Hid (Blk w5 WM Wcs 78) := hk
  have Ws : Hid ((projB l0 l1).length * 2 ≤ Wcs.size) := hs
  have Wh : Hid (Held Wcs (projB l0 l1) (projB l0 l1).length) := hh
  have U_Wk : Hid (w4.heap.size ≤ WM ∧ WM < w5.heap.size) := ⟨hM, hk.lt⟩
  clear hk hs hh hM
  have B5 : Hid (Below w.heap.size w w5) := grow_on B4.out hb
  have Z5 : Hid (w4.heap.size ≤ w5.heap.size) := hb.size
  have P0_5 : Hid (Blk w5 w.heap.size #[.slice a0 l0.length cap0, .int .i64 s0, .int .i64 e0, .string n0] 54) := P0_4.out.grow hb
  have Sk_5 : Hid (Blk w5 SM Scs 78) := Sk_4.out.grow hb
  have Tk_5 : Hid (Blk w5 w3.heap.size Tcs 9) := Tk_4.out.grow hb
  clear hb cP00 cP01 cP02 cP03
  have cP00 : w5.cell? ⟨w.heap.size, 0, none⟩ = some (.slice a0 l0.length cap0) := (P0_5.out).cell 0
  have cP01 : w5.cell? ⟨w.heap.size, 1, none⟩ = some (.int .i64 s0) := (P0_5.out).cell 1
  have cP02 : w5.cell? ⟨w.heap.size, 2, none⟩ = some (.int .i64 e0) := (P0_5.out).cell 2
  have cP03 : w5.cell? ⟨w.heap.size, 3, none⟩ = some (.string n0) := (P0_5.out).cell 3
  go_wp2_with fail
  refine (Go.Proofs.Ytmachabgnbpeaaa.Alm.to_any a0 cap0 l0 s0 e0 n0 _ (R0.out.below B5.out) K0.out).mono ?_
  rintro e w6 ⟨⟨XM, Xcs, rfl, hXM, hk, hs, hh⟩, hb⟩
  have Xk_6 : Hid (Blk w6 XM Xcs 78) := hk
  have Xs : Hid (Xcs.size = l0.length * 2) := hs
  have Xh : Hid (Held Xcs l0 l0.length) := hh
  have U_Xk : Hid (w5.heap.size ≤ XM ∧ XM < w6.heap.size) := ⟨hXM, hk.lt⟩
  clear hk hs hh hXM
  have B6 : Hid (Below w.heap.size w w6) := grow_on B5.out hb
  have Z6 : Hid (w5.heap.size ≤ w6.heap.size) := hb.size
  have P0_6 : Hid (Blk w6 w.heap.size #[.slice a0 l0.length cap0, .int .i64 s0, .int .i64 e0, .string n0] 54) := P0_5.out.grow hb
  have Wk_6 : Hid (Blk w6 WM Wcs 78) := Wk_5.out.grow hb
  clear hb cP00 cP01 cP02 cP03
  have cP00 : (w6.alloc (.cells #[.slice (some ⟨XM, 0, none⟩) l0.length l0.length, .int .i64 s0, .int .i64 e0, .string n0] 32)).cell? ⟨w.heap.size, 0, none⟩ = some (.slice a0 l0.length cap0) := (P0_6.out.alloc _).cell 0
  have cP01 : (w6.alloc (.cells #[.slice (some ⟨XM, 0, none⟩) l0.length l0.length, .int .i64 s0, .int .i64 e0, .string n0] 32)).cell? ⟨w.heap.size, 1, none⟩ = some (.int .i64 s0) := (P0_6.out.alloc _).cell 1
  have cP02 : (w6.alloc (.cells #[.slice (some ⟨XM, 0, none⟩) l0.length l0.length, .int .i64 s0, .int .i64 e0, .string n0] 32)).cell? ⟨w.heap.size, 2, none⟩ = some (.int .i64 e0) := (P0_6.out.alloc _).cell 2
  have cP03 : (w6.alloc (.cells #[.slice (some ⟨XM, 0, none⟩) l0.length l0.length, .int .i64 s0, .int .i64 e0, .string n0] 32)).cell? ⟨w.heap.size, 3, none⟩ = some (.string n0) := (P0_6.out.alloc _).cell 3
  go_wp2_with fail
  refine (Go.Proofs.Ytmachabgnbpeaaa.StrT.to_any a1 cap1 l1 _ (R1.out.below (grow_on B6.out (Go.Joins.below_alloc1 w6 _))) K1.out).mono ?_
  rintro e w7 ⟨rfl, ⟨Ycs, hk, hs, hh⟩, hb⟩
  have Yk_7 : Hid (Blk w7 (w6.heap.size + 1) Ycs 9) := by show Blk _ _ _ _; simpa using hk
  have Ys : Hid (Ycs.size = l1.length) := hs
  have Yh : Hid (HeldS Ycs l1) := hh
  have U_Yk : Hid (w6.heap.size ≤ (w6.heap.size + 1) ∧ (w6.heap.size + 1) < w7.heap.size) := ⟨by omega, by simpa using hk.lt⟩
  clear hk hs hh
  have Q0_7 : Hid (Blk w7 w6.heap.size #[.slice (some ⟨XM, 0, none⟩) l0.length l0.length, .int .i64 s0, .int .i64 e0, .string n0] 32) := (Blk.new _ _ _).grow hb
  have U_Q0 : Hid (w6.heap.size ≤ w6.heap.size ∧ w6.heap.size < w7.heap.size) := ⟨Nat.le_refl _, Q0_7.out.lt⟩
  replace hb := grow_on (Go.Joins.below_alloc1 w6 _) hb
  have B7 : Hid (Below w.heap.size w w7) := grow_on B6.out hb
  have Z7 : Hid (w6.heap.size ≤ w7.heap.size) := hb.size
  have P0_7 : Hid (Blk w7 w.heap.size #[.slice a0 l0.length cap0, .int .i64 s0, .int .i64 e0, .string n0] 54) := P0_6.out.grow hb
  have Wk_7 : Hid (Blk w7 WM Wcs 78) := Wk_6.out.grow hb
  have Xk_7 : Hid (Blk w7 XM Xcs 78) := Xk_6.out.grow hb
  clear hb cP00 cP01 cP02 cP03
  have cP00 : w7.cell? ⟨w.heap.size, 0, none⟩ = some (.slice a0 l0.length cap0) := (P0_7.out).cell 0
  have cP01 : w7.cell? ⟨w.heap.size, 1, none⟩ = some (.int .i64 s0) := (P0_7.out).cell 1
  have cP02 : w7.cell? ⟨w.heap.size, 2, none⟩ = some (.int .i64 e0) := (P0_7.out).cell 2
  have cP03 : w7.cell? ⟨w.heap.size, 3, none⟩ = some (.string n0) := (P0_7.out).cell 3
  have cQ00 : w7.cell? ⟨w6.heap.size, 0, none⟩ = some (.slice (some ⟨XM, 0, none⟩) l0.length l0.length) := (Q0_7.out).cell 0
  have cQ01 : w7.cell? ⟨w6.heap.size, 1, none⟩ = some (.int .i64 s0) := (Q0_7.out).cell 1
  have cQ02 : w7.cell? ⟨w6.heap.size, 2, none⟩ = some (.int .i64 e0) := (Q0_7.out).cell 2
  have cQ03 : w7.cell? ⟨w6.heap.size, 3, none⟩ = some (.string n0) := (Q0_7.out).cell 3
  go_wp2_with fail
  refine (implKey_any _ _ _ _ l0 s0 e0 n0 l1 _ ((held_reads Xk_7.out Xh.out)) ((heldS_reads Yk_7.out Yh.out)) K0.out M1.out).mono ?_
  rintro e w8 ⟨⟨GM, Gc, rfl, hM, Gcs, hk, hs, hh⟩, hb⟩
  have Gk_8 : Hid (Blk w8 GM Gcs 78) := hk
  have Gs : Hid ((projB l0 l1).length * 2 ≤ Gcs.size) := hs
  have Gh : Hid (Held Gcs (projB l0 l1) (projB l0 l1).length) := hh
  have U_Gk : Hid (w7.heap.size ≤ GM ∧ GM < w8.heap.size) := ⟨hM, hk.lt⟩
  clear hk hs hh hM
  have B8 : Hid (Below w.heap.size w w8) := grow_on B7.out hb
  have Z8 : Hid (w7.heap.size ≤ w8.heap.size) := hb.size
  have P0_8 : Hid (Blk w8 w.heap.size #[.slice a0 l0.length cap0, .int .i64 s0, .int .i64 e0, .string n0] 54) := P0_7.out.grow hb
  have Wk_8 : Hid (Blk w8 WM Wcs 78) := Wk_7.out.grow hb
  have Xk_8 : Hid (Blk w8 XM Xcs 78) := Xk_7.out.grow hb
  have Q0_8 : Hid (Blk w8 w6.heap.size #[.slice (some ⟨XM, 0, none⟩) l0.length l0.length, .int .i64 s0, .int .i64 e0, .string n0] 32) := Q0_7.out.grow hb
  have Yk_8 : Hid (Blk w8 (w6.heap.size + 1) Ycs 9) := Yk_7.out.grow hb
  clear hb cP00 cP01 cP02 cP03 cQ00 cQ01 cQ02 cQ03
  have eQ : decide ((projB l0 l1) = (projB l0 l1)) = true := decide_eq_true rfl
  have e0' : decide (l0 = l0) = true := decide_eq_true rfl
  have cP00 : w8.cell? ⟨w.heap.size, 0, none⟩ = some (.slice a0 l0.length cap0) := (P0_8.out).cell 0
  have cP01 : w8.cell? ⟨w.heap.size, 1, none⟩ = some (.int .i64 s0) := (P0_8.out).cell 1
  have cP02 : w8.cell? ⟨w.heap.size, 2, none⟩ = some (.int .i64 e0) := (P0_8.out).cell 2
  have cP03 : w8.cell? ⟨w.heap.size, 3, none⟩ = some (.string n0) := (P0_8.out).cell 3
  have cQ00 : w8.cell? ⟨w6.heap.size, 0, none⟩ = some (.slice (some ⟨XM, 0, none⟩) l0.length l0.length) := (Q0_8.out).cell 0
  have cQ01 : w8.cell? ⟨w6.heap.size, 1, none⟩ = some (.int .i64 s0) := (Q0_8.out).cell 1
  have cQ02 : w8.cell? ⟨w6.heap.size, 2, none⟩ = some (.int .i64 e0) := (Q0_8.out).cell 2
  have cQ03 : w8.cell? ⟨w6.heap.size, 3, none⟩ = some (.string n0) := (Q0_8.out).cell 3
  go_wp2_with fail
  refine (Go.Proofs.Ytmachabgnbpeaaa.LabT.eq_any _ _ _ _ (projB l0 l1) (projB l0 l1) _ (held_reads Gk_8.out Gh.out) (held_reads Wk_8.out Wh.out) MP.out MP.out).mono ?_
  rintro e w9 ⟨rfl, hb⟩
  have B9 : Hid (Below w.heap.size w w9) := grow_on B8.out hb
  have Z9 : Hid (w8.heap.size ≤ w9.heap.size) := hb.size
  have P0_9 : Hid (Blk w9 w.heap.size #[.slice a0 l0.length cap0, .int .i64 s0, .int .i64 e0, .string n0] 54) := P0_8.out.grow hb
  have Wk_9 : Hid (Blk w9 WM Wcs 78) := Wk_8.out.grow hb
  have Xk_9 : Hid (Blk w9 XM Xcs 78) := Xk_8.out.grow hb
  have Q0_9 : Hid (Blk w9 w6.heap.size #[.slice (some ⟨XM, 0, none⟩) l0.length l0.length, .int .i64 s0, .int .i64 e0, .string n0] 32) := Q0_8.out.grow hb
  have Yk_9 : Hid (Blk w9 (w6.heap.size + 1) Ycs 9) := Yk_8.out.grow hb
  have Gk_9 : Hid (Blk w9 GM Gcs 78) := Gk_8.out.grow hb
  clear hb cP00 cP01 cP02 cP03 cQ00 cQ01 cQ02 cQ03
  have e0'' : Go.Proofs.Ytmachabgnbpeaaa.Alm.sameB l0 s0 e0 n0 l0 s0 e0 n0 = true := Go.Proofs.Ytmachabgnbpeaaa.Alm.same_self _ _ _ _
  have cP00 : w9.cell? ⟨w.heap.size, 0, none⟩ = some (.slice a0 l0.length cap0) := (P0_9.out).cell 0
  have cP01 : w9.cell? ⟨w.heap.size, 1, none⟩ = some (.int .i64 s0) := (P0_9.out).cell 1
  have cP02 : w9.cell? ⟨w.heap.size, 2, none⟩ = some (.int .i64 e0) := (P0_9.out).cell 2
  have cP03 : w9.cell? ⟨w.heap.size, 3, none⟩ = some (.string n0) := (P0_9.out).cell 3
  have cQ00 : w9.cell? ⟨w6.heap.size, 0, none⟩ = some (.slice (some ⟨XM, 0, none⟩) l0.length l0.length) := (Q0_9.out).cell 0
  have cQ01 : w9.cell? ⟨w6.heap.size, 1, none⟩ = some (.int .i64 s0) := (Q0_9.out).cell 1
  have cQ02 : w9.cell? ⟨w6.heap.size, 2, none⟩ = some (.int .i64 e0) := (Q0_9.out).cell 2
  have cQ03 : w9.cell? ⟨w6.heap.size, 3, none⟩ = some (.string n0) := (Q0_9.out).cell 3
  go_wp2
  have kz : Below w9.heap.size w9 w9.drew := (Below.refl _ _).drew
  have kP0 := P0_9.out.lt
  have kQ0 := Q0_9.out.lt
  have HS : Hid (∀ w', Below w9.heap.size w9 w' → Below w9.heap.size w9 w' ∧ w'.cell? ⟨w.heap.size, 0, none⟩ = some (.slice a0 l0.length cap0) ∧ w'.cell? ⟨w.heap.size, 1, none⟩ = some (.int .i64 s0) ∧ w'.cell? ⟨w.heap.size, 2, none⟩ = some (.int .i64 e0) ∧ w'.cell? ⟨w.heap.size, 3, none⟩ = some (.string n0) ∧ w'.cell? ⟨w6.heap.size, 0, none⟩ = some (.slice (some ⟨XM, 0, none⟩) l0.length l0.length) ∧ w'.cell? ⟨w6.heap.size, 1, none⟩ = some (.int .i64 s0) ∧ w'.cell? ⟨w6.heap.size, 2, none⟩ = some (.int .i64 e0) ∧ w'.cell? ⟨w6.heap.size, 3, none⟩ = some (.string n0)) := fun w' h => ⟨h, (h.cell kP0).trans cP00, (h.cell kP0).trans cP01, (h.cell kP0).trans cP02, (h.cell kP0).trans cP03, (h.cell kQ0).trans cQ00, (h.cell kQ0).trans cQ01, (h.cell kQ0).trans cQ02, (h.cell kQ0).trans cQ03⟩
  go_region_held3 (fun w' => Below w9.heap.size w9 w' ∧ w'.cell? ⟨w.heap.size, 0, none⟩ = some (.slice a0 l0.length cap0) ∧ w'.cell? ⟨w.heap.size, 1, none⟩ = some (.int .i64 s0) ∧ w'.cell? ⟨w.heap.size, 2, none⟩ = some (.int .i64 e0) ∧ w'.cell? ⟨w.heap.size, 3, none⟩ = some (.string n0) ∧ w'.cell? ⟨w6.heap.size, 0, none⟩ = some (.slice (some ⟨XM, 0, none⟩) l0.length l0.length) ∧ w'.cell? ⟨w6.heap.size, 1, none⟩ = some (.int .i64 s0) ∧ w'.cell? ⟨w6.heap.size, 2, none⟩ = some (.int .i64 e0) ∧ w'.cell? ⟨w6.heap.size, 3, none⟩ = some (.string n0)) (first | with_reducible exact HS.out _ kz | with_reducible exact HS.out _ (grow_on kz hy0) | with_reducible exact HS.out _ (grow_on (grow_on kz hy0) hy1) | (go_keep; done)) (first | (go_at_call 36; with_reducible refine (Go.Proofs.Ytmachabgnbpeaaa.Alm.to_any a0 cap0 l0 s0 e0 n0 _ (R0.out.below (grow_on B9.out kz)) K0.out).mono ?_; rintro e wy ⟨⟨YM, cs, rfl, -, hk, -, hh⟩, hy0⟩) | (go_at_call 37; refine (Go.Proofs.Ytmachabgnbpeaaa.Alm.eq_any _ _ _ _ l0 l0 s0 e0 s0 e0 n0 n0 _ ((held_reads Xk_9.out Xh.out).below (grow_on kz hy0)) (held_reads hk hh) M0.out M0.out).mono ?_; rintro e w10 ⟨rfl, hy1⟩))
  have hb := (grow_on (grow_on kz hy0) hy1)
  have B10 : Hid (Below w.heap.size w w10) := grow_on B9.out hb
  have Z10 : Hid (w9.heap.size ≤ w10.heap.size) := hb.size
  have P0_10 : Hid (Blk w10 w.heap.size #[.slice a0 l0.length cap0, .int .i64 s0, .int .i64 e0, .string n0] 54) := P0_9.out.grow hb
  have Wk_10 : Hid (Blk w10 WM Wcs 78) := Wk_9.out.grow hb
  have Xk_10 : Hid (Blk w10 XM Xcs 78) := Xk_9.out.grow hb
  have Q0_10 : Hid (Blk w10 w6.heap.size #[.slice (some ⟨XM, 0, none⟩) l0.length l0.length, .int .i64 s0, .int .i64 e0, .string n0] 32) := Q0_9.out.grow hb
  have Yk_10 : Hid (Blk w10 (w6.heap.size + 1) Ycs 9) := Yk_9.out.grow hb
  have Gk_10 : Hid (Blk w10 GM Gcs 78) := Gk_9.out.grow hb
  clear hb kz HS hy0 hy1 kP0 kQ0 cP00 cP01 cP02 cP03 cQ00 cQ01 cQ02 cQ03 hk hh
  have cP00 : w10.cell? ⟨w.heap.size, 0, none⟩ = some (.slice a0 l0.length cap0) := (P0_10.out).cell 0
  have cP01 : w10.cell? ⟨w.heap.size, 1, none⟩ = some (.int .i64 s0) := (P0_10.out).cell 1
  have cP02 : w10.cell? ⟨w.heap.size, 2, none⟩ = some (.int .i64 e0) := (P0_10.out).cell 2
  have cP03 : w10.cell? ⟨w.heap.size, 3, none⟩ = some (.string n0) := (P0_10.out).cell 3
  have cQ00 : w10.cell? ⟨w6.heap.size, 0, none⟩ = some (.slice (some ⟨XM, 0, none⟩) l0.length l0.length) := (Q0_10.out).cell 0
  have cQ01 : w10.cell? ⟨w6.heap.size, 1, none⟩ = some (.int .i64 s0) := (Q0_10.out).cell 1
  have cQ02 : w10.cell? ⟨w6.heap.size, 2, none⟩ = some (.int .i64 e0) := (Q0_10.out).cell 2
  have cQ03 : w10.cell? ⟨w6.heap.size, 3, none⟩ = some (.string n0) := (Q0_10.out).cell 3
  go_wp2_with fail
  refine (Go.Proofs.Ytmachabgnbpeaaa.StrT.to_any a1 cap1 l1 _ (R1.out.below B10.out) K1.out).mono ?_
  rintro e w11 ⟨rfl, ⟨Z1cs, hk, hs, hh⟩, hb⟩
  have Z1k_11 : Hid (Blk w11 w10.heap.size Z1cs 9) := hk
  have Z1s : Hid (Z1cs.size = l1.length) := hs
  have Z1h : Hid (HeldS Z1cs l1) := hh
  have U_Z1k : Hid (w10.heap.size ≤ w10.heap.size ∧ w10.heap.size < w11.heap.size) := ⟨Nat.le_refl _, hk.lt⟩
  clear hk hs hh
  have B11 : Hid (Below w.heap.size w w11) := grow_on B10.out hb
  have Z11 : Hid (w10.heap.size ≤ w11.heap.size) := hb.size
  have P0_11 : Hid (Blk w11 w.heap.size #[.slice a0 l0.length cap0, .int .i64 s0, .int .i64 e0, .string n0] 54) := P0_10.out.grow hb
  have Wk_11 : Hid (Blk w11 WM Wcs 78) := Wk_10.out.grow hb
  have Xk_11 : Hid (Blk w11 XM Xcs 78) := Xk_10.out.grow hb
  have Q0_11 : Hid (Blk w11 w6.heap.size #[.slice (some ⟨XM, 0, none⟩) l0.length l0.length, .int .i64 s0, .int .i64 e0, .string n0] 32) := Q0_10.out.grow hb
  have Yk_11 : Hid (Blk w11 (w6.heap.size + 1) Ycs 9) := Yk_10.out.grow hb
  have Gk_11 : Hid (Blk w11 GM Gcs 78) := Gk_10.out.grow hb
  clear hb cP00 cP01 cP02 cP03 cQ00 cQ01 cQ02 cQ03
  have cP00 : w11.cell? ⟨w.heap.size, 0, none⟩ = some (.slice a0 l0.length cap0) := (P0_11.out).cell 0
  have cP01 : w11.cell? ⟨w.heap.size, 1, none⟩ = some (.int .i64 s0) := (P0_11.out).cell 1
  have cP02 : w11.cell? ⟨w.heap.size, 2, none⟩ = some (.int .i64 e0) := (P0_11.out).cell 2
  have cP03 : w11.cell? ⟨w.heap.size, 3, none⟩ = some (.string n0) := (P0_11.out).cell 3
  have cQ00 : w11.cell? ⟨w6.heap.size, 0, none⟩ = some (.slice (some ⟨XM, 0, none⟩) l0.length l0.length) := (Q0_11.out).cell 0
  have cQ01 : w11.cell? ⟨w6.heap.size, 1, none⟩ = some (.int .i64 s0) := (Q0_11.out).cell 1
  have cQ02 : w11.cell? ⟨w6.heap.size, 2, none⟩ = some (.int .i64 e0) := (Q0_11.out).cell 2
  have cQ03 : w11.cell? ⟨w6.heap.size, 3, none⟩ = some (.string n0) := (Q0_11.out).cell 3
  go_wp2_with fail
  refine (Go.Proofs.Ytmachabgnbpeaaa.StrT.eq_any _ _ _ _ l1 _ (heldS_reads Yk_11.out Yh.out) (heldS_reads Z1k_11.out Z1h.out) M1.out).mono ?_
  rintro e w12 ⟨rfl, hb⟩
  have B12 : Hid (Below w.heap.size w w12) := grow_on B11.out hb
  have Z12 : Hid (w11.heap.size ≤ w12.heap.size) := hb.size
  have P0_12 : Hid (Blk w12 w.heap.size #[.slice a0 l0.length cap0, .int .i64 s0, .int .i64 e0, .string n0] 54) := P0_11.out.grow hb
  have Wk_12 : Hid (Blk w12 WM Wcs 78) := Wk_11.out.grow hb
  have Xk_12 : Hid (Blk w12 XM Xcs 78) := Xk_11.out.grow hb
  have Q0_12 : Hid (Blk w12 w6.heap.size #[.slice (some ⟨XM, 0, none⟩) l0.length l0.length, .int .i64 s0, .int .i64 e0, .string n0] 32) := Q0_11.out.grow hb
  have Yk_12 : Hid (Blk w12 (w6.heap.size + 1) Ycs 9) := Yk_11.out.grow hb
  have Gk_12 : Hid (Blk w12 GM Gcs 78) := Gk_11.out.grow hb
  have Z1k_12 : Hid (Blk w12 w10.heap.size Z1cs 9) := Z1k_11.out.grow hb
  clear hb cP00 cP01 cP02 cP03 cQ00 cQ01 cQ02 cQ03
  have cP00 : w12.cell? ⟨w.heap.size, 0, none⟩ = some (.slice a0 l0.length cap0) := (P0_12.out).cell 0
  have cP01 : w12.cell? ⟨w.heap.size, 1, none⟩ = some (.int .i64 s0) := (P0_12.out).cell 1
  have cP02 : w12.cell? ⟨w.heap.size, 2, none⟩ = some (.int .i64 e0) := (P0_12.out).cell 2
  have cP03 : w12.cell? ⟨w.heap.size, 3, none⟩ = some (.string n0) := (P0_12.out).cell 3
  have cQ00 : w12.cell? ⟨w6.heap.size, 0, none⟩ = some (.slice (some ⟨XM, 0, none⟩) l0.length l0.length) := (Q0_12.out).cell 0
  have cQ01 : w12.cell? ⟨w6.heap.size, 1, none⟩ = some (.int .i64 s0) := (Q0_12.out).cell 1
  have cQ02 : w12.cell? ⟨w6.heap.size, 2, none⟩ = some (.int .i64 e0) := (Q0_12.out).cell 2
  have cQ03 : w12.cell? ⟨w6.heap.size, 3, none⟩ = some (.string n0) := (Q0_12.out).cell 3
  go_wp2_with fail
  refine (markA_any XM l0.length l0.length 1 s0 e0 n0 Xcs _ Xk_12.out (by rw [Xs.out]; exact Nat.le_refl _) K0.out (by omega) (by omega)).mono ?_
  rintro e w13 ⟨rfl, -, ha⟩
  have B13 : Hid (Below w.heap.size w w13) := B12.out.trans (ha.low (by have h0 := Z1.out; have h1 := Z2.out; have h2 := Z3.out; have h3 := Z4.out; have h4 := Z5.out; have h5 := Z6.out; have h6 := Z7.out; have h7 := Z8.out; have h8 := Z9.out; have h9 := Z10.out; have h10 := Z11.out; have h11 := Z12.out; have h12 := U_P0.out; have h13 := U_Sk.out; have h14 := U_Tk.out; have h15 := U_Wk.out; have h16 := U_Xk.out; have h17 := U_Q0.out; have h18 := U_Yk.out; have h19 := U_Gk.out; have h20 := U_Z1k.out; omega) B12.out.size)
  have Z13 : Hid (w12.heap.size ≤ w13.heap.size) := ha.size
  have P0_13 : Hid (Blk w13 w.heap.size #[.slice a0 l0.length cap0, .int .i64 s0, .int .i64 e0, .string n0] 54) := ha.blk P0_12.out (by have h0 := Z1.out; have h1 := Z2.out; have h2 := Z3.out; have h3 := Z4.out; have h4 := Z5.out; have h5 := Z6.out; have h6 := Z7.out; have h7 := Z8.out; have h8 := Z9.out; have h9 := Z10.out; have h10 := Z11.out; have h11 := Z12.out; have h12 := Z13.out; have h13 := U_P0.out; have h14 := U_Sk.out; have h15 := U_Tk.out; have h16 := U_Wk.out; have h17 := U_Xk.out; have h18 := U_Q0.out; have h19 := U_Yk.out; have h20 := U_Gk.out; have h21 := U_Z1k.out; omega)
  have Wk_13 : Hid (Blk w13 WM Wcs 78) := ha.blk Wk_12.out (by have h0 := Z1.out; have h1 := Z2.out; have h2 := Z3.out; have h3 := Z4.out; have h4 := Z5.out; have h5 := Z6.out; have h6 := Z7.out; have h7 := Z8.out; have h8 := Z9.out; have h9 := Z10.out; have h10 := Z11.out; have h11 := Z12.out; have h12 := Z13.out; have h13 := U_P0.out; have h14 := U_Sk.out; have h15 := U_Tk.out; have h16 := U_Wk.out; have h17 := U_Xk.out; have h18 := U_Q0.out; have h19 := U_Yk.out; have h20 := U_Gk.out; have h21 := U_Z1k.out; omega)
  have Q0_13 : Hid (Blk w13 w6.heap.size #[.slice (some ⟨XM, 0, none⟩) l0.length l0.length, .int .i64 s0, .int .i64 e0, .string n0] 32) := ha.blk Q0_12.out (by have h0 := Z1.out; have h1 := Z2.out; have h2 := Z3.out; have h3 := Z4.out; have h4 := Z5.out; have h5 := Z6.out; have h6 := Z7.out; have h7 := Z8.out; have h8 := Z9.out; have h9 := Z10.out; have h10 := Z11.out; have h11 := Z12.out; have h12 := Z13.out; have h13 := U_P0.out; have h14 := U_Sk.out; have h15 := U_Tk.out; have h16 := U_Wk.out; have h17 := U_Xk.out; have h18 := U_Q0.out; have h19 := U_Yk.out; have h20 := U_Gk.out; have h21 := U_Z1k.out; omega)
  have Yk_13 : Hid (Blk w13 (w6.heap.size + 1) Ycs 9) := ha.blk Yk_12.out (by have h0 := Z1.out; have h1 := Z2.out; have h2 := Z3.out; have h3 := Z4.out; have h4 := Z5.out; have h5 := Z6.out; have h6 := Z7.out; have h7 := Z8.out; have h8 := Z9.out; have h9 := Z10.out; have h10 := Z11.out; have h11 := Z12.out; have h12 := Z13.out; have h13 := U_P0.out; have h14 := U_Sk.out; have h15 := U_Tk.out; have h16 := U_Wk.out; have h17 := U_Xk.out; have h18 := U_Q0.out; have h19 := U_Yk.out; have h20 := U_Gk.out; have h21 := U_Z1k.out; omega)
  have Gk_13 : Hid (Blk w13 GM Gcs 78) := ha.blk Gk_12.out (by have h0 := Z1.out; have h1 := Z2.out; have h2 := Z3.out; have h3 := Z4.out; have h4 := Z5.out; have h5 := Z6.out; have h6 := Z7.out; have h7 := Z8.out; have h8 := Z9.out; have h9 := Z10.out; have h10 := Z11.out; have h11 := Z12.out; have h12 := Z13.out; have h13 := U_P0.out; have h14 := U_Sk.out; have h15 := U_Tk.out; have h16 := U_Wk.out; have h17 := U_Xk.out; have h18 := U_Q0.out; have h19 := U_Yk.out; have h20 := U_Gk.out; have h21 := U_Z1k.out; omega)
  clear ha cP00 cP01 cP02 cP03 cQ00 cQ01 cQ02 cQ03
  have HM1 : Hid (1 ≤ 1 + 2 * l0.length ∧ 1 + 2 * l0.length ≤ 10000000) := by have := K0.out; exact ⟨by omega, by omega⟩
  generalize 1 + 2 * l0.length = m1 at HM1 ⊢
  have cP00 : w13.cell? ⟨w.heap.size, 0, none⟩ = some (.slice a0 l0.length cap0) := (P0_13.out).cell 0
  have cP01 : w13.cell? ⟨w.heap.size, 1, none⟩ = some (.int .i64 s0) := (P0_13.out).cell 1
  have cP02 : w13.cell? ⟨w.heap.size, 2, none⟩ = some (.int .i64 e0) := (P0_13.out).cell 2
  have cP03 : w13.cell? ⟨w.heap.size, 3, none⟩ = some (.string n0) := (P0_13.out).cell 3
  go_wp2_with fail
  refine (Go.Proofs.Ytmachabgnbpeaaa.StrT.mark_any (w6.heap.size + 1) l1.length l1.length m1 Ycs _ Yk_13.out (by rw [Ys.out]; exact Nat.le_refl _) K1.out HM1.out.1 HM1.out.2).mono ?_
  rintro e w14 ⟨rfl, ha⟩
  have B14 : Hid (Below w.heap.size w w14) := B13.out.trans (ha.low (by have h0 := Z1.out; have h1 := Z2.out; have h2 := Z3.out; have h3 := Z4.out; have h4 := Z5.out; have h5 := Z6.out; have h6 := Z7.out; have h7 := Z8.out; have h8 := Z9.out; have h9 := Z10.out; have h10 := Z11.out; have h11 := Z12.out; have h12 := Z13.out; have h13 := U_P0.out; have h14 := U_Sk.out; have h15 := U_Tk.out; have h16 := U_Wk.out; have h17 := U_Xk.out; have h18 := U_Q0.out; have h19 := U_Yk.out; have h20 := U_Gk.out; have h21 := U_Z1k.out; omega) B13.out.size)
  have Z14 : Hid (w13.heap.size ≤ w14.heap.size) := ha.size
  have P0_14 : Hid (Blk w14 w.heap.size #[.slice a0 l0.length cap0, .int .i64 s0, .int .i64 e0, .string n0] 54) := ha.blk P0_13.out (by have h0 := Z1.out; have h1 := Z2.out; have h2 := Z3.out; have h3 := Z4.out; have h4 := Z5.out; have h5 := Z6.out; have h6 := Z7.out; have h7 := Z8.out; have h8 := Z9.out; have h9 := Z10.out; have h10 := Z11.out; have h11 := Z12.out; have h12 := Z13.out; have h13 := Z14.out; have h14 := U_P0.out; have h15 := U_Sk.out; have h16 := U_Tk.out; have h17 := U_Wk.out; have h18 := U_Xk.out; have h19 := U_Q0.out; have h20 := U_Yk.out; have h21 := U_Gk.out; have h22 := U_Z1k.out; omega)
  have Wk_14 : Hid (Blk w14 WM Wcs 78) := ha.blk Wk_13.out (by have h0 := Z1.out; have h1 := Z2.out; have h2 := Z3.out; have h3 := Z4.out; have h4 := Z5.out; have h5 := Z6.out; have h6 := Z7.out; have h7 := Z8.out; have h8 := Z9.out; have h9 := Z10.out; have h10 := Z11.out; have h11 := Z12.out; have h12 := Z13.out; have h13 := Z14.out; have h14 := U_P0.out; have h15 := U_Sk.out; have h16 := U_Tk.out; have h17 := U_Wk.out; have h18 := U_Xk.out; have h19 := U_Q0.out; have h20 := U_Yk.out; have h21 := U_Gk.out; have h22 := U_Z1k.out; omega)
  have Gk_14 : Hid (Blk w14 GM Gcs 78) := ha.blk Gk_13.out (by have h0 := Z1.out; have h1 := Z2.out; have h2 := Z3.out; have h3 := Z4.out; have h4 := Z5.out; have h5 := Z6.out; have h6 := Z7.out; have h7 := Z8.out; have h8 := Z9.out; have h9 := Z10.out; have h10 := Z11.out; have h11 := Z12.out; have h12 := Z13.out; have h13 := Z14.out; have h14 := U_P0.out; have h15 := U_Sk.out; have h16 := U_Tk.out; have h17 := U_Wk.out; have h18 := U_Xk.out; have h19 := U_Q0.out; have h20 := U_Yk.out; have h21 := U_Gk.out; have h22 := U_Z1k.out; omega)
  clear ha cP00 cP01 cP02 cP03
  have hq : ¬ ((m1 + l1.length : Nat) : Int) < 0 := by omega
  generalize m1 + l1.length = m2 at hq ⊢
  have cP00 : w14.cell? ⟨w.heap.size, 0, none⟩ = some (.slice a0 l0.length cap0) := (P0_14.out).cell 0
  have cP01 : w14.cell? ⟨w.heap.size, 1, none⟩ = some (.int .i64 s0) := (P0_14.out).cell 1
  have cP02 : w14.cell? ⟨w.heap.size, 2, none⟩ = some (.int .i64 e0) := (P0_14.out).cell 2
  have cP03 : w14.cell? ⟨w.heap.size, 3, none⟩ = some (.string n0) := (P0_14.out).cell 3
  go_wp2_with fail
  refine (Go.Proofs.Ytmachabgnbpeaaa.LabT.eq_any _ _ _ _ (projB l0 l1) (projB l0 l1) _ (held_reads Gk_14.out Gh.out) (held_reads Wk_14.out Wh.out) MP.out MP.out).mono ?_
  rintro e w15 ⟨rfl, hb⟩
  have B15 : Hid (Below w.heap.size w w15) := grow_on B14.out hb
  have Z15 : Hid (w14.heap.size ≤ w15.heap.size) := hb.size
  have P0_15 : Hid (Blk w15 w.heap.size #[.slice a0 l0.length cap0, .int .i64 s0, .int .i64 e0, .string n0] 54) := P0_14.out.grow hb
  have Wk_15 : Hid (Blk w15 WM Wcs 78) := Wk_14.out.grow hb
  have Gk_15 : Hid (Blk w15 GM Gcs 78) := Gk_14.out.grow hb
  clear hb cP00 cP01 cP02 cP03
  clear hq
  have cP00 : w15.cell? ⟨w.heap.size, 0, none⟩ = some (.slice a0 l0.length cap0) := (P0_15.out).cell 0
  have cP01 : w15.cell? ⟨w.heap.size, 1, none⟩ = some (.int .i64 s0) := (P0_15.out).cell 1
  have cP02 : w15.cell? ⟨w.heap.size, 2, none⟩ = some (.int .i64 e0) := (P0_15.out).cell 2
  have cP03 : w15.cell? ⟨w.heap.size, 3, none⟩ = some (.string n0) := (P0_15.out).cell 3
  go_wp2_with fail
  refine (mark_any GM (projB l0 l1).length Gc 1 Gcs _ Gk_15.out Gs.out KP.out (by omega) (by omega)).mono ?_
  rintro e w16 ⟨rfl, ⟨Gds, hk, -, hm⟩, ha⟩
  have B16 : Hid (Below w.heap.size w w16) := B15.out.trans (ha.low (by have h0 := Z1.out; have h1 := Z2.out; have h2 := Z3.out; have h3 := Z4.out; have h4 := Z5.out; have h5 := Z6.out; have h6 := Z7.out; have h7 := Z8.out; have h8 := Z9.out; have h9 := Z10.out; have h10 := Z11.out; have h11 := Z12.out; have h12 := Z13.out; have h13 := Z14.out; have h14 := Z15.out; have h15 := U_P0.out; have h16 := U_Sk.out; have h17 := U_Tk.out; have h18 := U_Wk.out; have h19 := U_Xk.out; have h20 := U_Q0.out; have h21 := U_Yk.out; have h22 := U_Gk.out; have h23 := U_Z1k.out; omega) B15.out.size)
  have Z16 : Hid (w15.heap.size ≤ w16.heap.size) := ha.size
  have P0_16 : Hid (Blk w16 w.heap.size #[.slice a0 l0.length cap0, .int .i64 s0, .int .i64 e0, .string n0] 54) := ha.blk P0_15.out (by have h0 := Z1.out; have h1 := Z2.out; have h2 := Z3.out; have h3 := Z4.out; have h4 := Z5.out; have h5 := Z6.out; have h6 := Z7.out; have h7 := Z8.out; have h8 := Z9.out; have h9 := Z10.out; have h10 := Z11.out; have h11 := Z12.out; have h12 := Z13.out; have h13 := Z14.out; have h14 := Z15.out; have h15 := Z16.out; have h16 := U_P0.out; have h17 := U_Sk.out; have h18 := U_Tk.out; have h19 := U_Wk.out; have h20 := U_Xk.out; have h21 := U_Q0.out; have h22 := U_Yk.out; have h23 := U_Gk.out; have h24 := U_Z1k.out; omega)
  have Wk_16 : Hid (Blk w16 WM Wcs 78) := ha.blk Wk_15.out (by have h0 := Z1.out; have h1 := Z2.out; have h2 := Z3.out; have h3 := Z4.out; have h4 := Z5.out; have h5 := Z6.out; have h6 := Z7.out; have h7 := Z8.out; have h8 := Z9.out; have h9 := Z10.out; have h10 := Z11.out; have h11 := Z12.out; have h12 := Z13.out; have h13 := Z14.out; have h14 := Z15.out; have h15 := Z16.out; have h16 := U_P0.out; have h17 := U_Sk.out; have h18 := U_Tk.out; have h19 := U_Wk.out; have h20 := U_Xk.out; have h21 := U_Q0.out; have h22 := U_Yk.out; have h23 := U_Gk.out; have h24 := U_Z1k.out; omega)
  have Hk_16 : Hid (Blk w16 GM Gds 78) := hk
  have HMk : Hid (Marked Gds 1 (projB l0 l1).length) := hm
  clear hk hm
  clear ha cP00 cP01 cP02 cP03
  have hq : ¬ ((1 + 2 * (projB l0 l1).length : Nat) : Int) < 0 := by omega
  have cP00 : w16.cell? ⟨w.heap.size, 0, none⟩ = some (.slice a0 l0.length cap0) := (P0_16.out).cell 0
  have cP01 : w16.cell? ⟨w.heap.size, 1, none⟩ = some (.int .i64 s0) := (P0_16.out).cell 1
  have cP02 : w16.cell? ⟨w.heap.size, 2, none⟩ = some (.int .i64 e0) := (P0_16.out).cell 2
  have cP03 : w16.cell? ⟨w.heap.size, 3, none⟩ = some (.string n0) := (P0_16.out).cell 3
  go_wp2_with fail
  refine (held_any GM (projB l0 l1).length Gc 1 Gds _ Hk_16.out HMk.out KP.out (by omega) (by omega)).mono ?_
  rintro e w17 ⟨rfl, hb⟩
  have B17 : Hid (Below w.heap.size w w17) := grow_on B16.out hb
  have Z17 : Hid (w16.heap.size ≤ w17.heap.size) := hb.size
  have P0_17 : Hid (Blk w17 w.heap.size #[.slice a0 l0.length cap0, .int .i64 s0, .int .i64 e0, .string n0] 54) := P0_16.out.grow hb
  have Wk_17 : Hid (Blk w17 WM Wcs 78) := Wk_16.out.grow hb
  have Hk_17 : Hid (Blk w17 GM Gds 78) := Hk_16.out.grow hb
  clear hb cP00 cP01 cP02 cP03
  have cP00 : w17.cell? ⟨w.heap.size, 0, none⟩ = some (.slice a0 l0.length cap0) := (P0_17.out).cell 0
  have cP01 : w17.cell? ⟨w.heap.size, 1, none⟩ = some (.int .i64 s0) := (P0_17.out).cell 1
  have cP02 : w17.cell? ⟨w.heap.size, 2, none⟩ = some (.int .i64 e0) := (P0_17.out).cell 2
  have cP03 : w17.cell? ⟨w.heap.size, 3, none⟩ = some (.string n0) := (P0_17.out).cell 3
  go_wp2_with fail
  refine (Go.Proofs.Ytmachabgnbpeaaa.Alm.to_any a0 cap0 l0 s0 e0 n0 _ (R0.out.below B17.out) K0.out).mono ?_
  rintro e w18 ⟨⟨CM, Ccs, rfl, hXM, hk, hs, hh⟩, hb⟩
  have Ck_18 : Hid (Blk w18 CM Ccs 78) := hk
  have Cs : Hid (Ccs.size = l0.length * 2) := hs
  have Ch : Hid (Held Ccs l0 l0.length) := hh
  have U_Ck : Hid (w17.heap.size ≤ CM ∧ CM < w18.heap.size) := ⟨hXM, hk.lt⟩
  clear hk hs hh hXM
  have B18 : Hid (Below w.heap.size w w18) := grow_on B17.out hb
  have Z18 : Hid (w17.heap.size ≤ w18.heap.size) := hb.size
  have P0_18 : Hid (Blk w18 w.heap.size #[.slice a0 l0.length cap0, .int .i64 s0, .int .i64 e0, .string n0] 54) := P0_17.out.grow hb
  have Wk_18 : Hid (Blk w18 WM Wcs 78) := Wk_17.out.grow hb
  have Hk_18 : Hid (Blk w18 GM Gds 78) := Hk_17.out.grow hb
  clear hb cP00 cP01 cP02 cP03
  have cP00 : w18.cell? ⟨w.heap.size, 0, none⟩ = some (.slice a0 l0.length cap0) := (P0_18.out).cell 0
  have cP01 : w18.cell? ⟨w.heap.size, 1, none⟩ = some (.int .i64 s0) := (P0_18.out).cell 1
  have cP02 : w18.cell? ⟨w.heap.size, 2, none⟩ = some (.int .i64 e0) := (P0_18.out).cell 2
  have cP03 : w18.cell? ⟨w.heap.size, 3, none⟩ = some (.string n0) := (P0_18.out).cell 3
  go_wp2_with fail
  refine (Go.Proofs.Ytmachabgnbpeaaa.StrT.to_any a1 cap1 l1 _ (R1.out.below B18.out) K1.out).mono ?_
  rintro e w19 ⟨rfl, ⟨Dcs, hk, hs, hh⟩, hb⟩
  have Dk_19 : Hid (Blk w19 w18.heap.size Dcs 9) := hk
  have Ds : Hid (Dcs.size = l1.length) := hs
  have Dh : Hid (HeldS Dcs l1) := hh
  have U_Dk : Hid (w18.heap.size ≤ w18.heap.size ∧ w18.heap.size < w19.heap.size) := ⟨Nat.le_refl _, hk.lt⟩
  clear hk hs hh
  have B19 : Hid (Below w.heap.size w w19) := grow_on B18.out hb
  have Z19 : Hid (w18.heap.size ≤ w19.heap.size) := hb.size
  have P0_19 : Hid (Blk w19 w.heap.size #[.slice a0 l0.length cap0, .int .i64 s0, .int .i64 e0, .string n0] 54) := P0_18.out.grow hb
  have Wk_19 : Hid (Blk w19 WM Wcs 78) := Wk_18.out.grow hb
  have Hk_19 : Hid (Blk w19 GM Gds 78) := Hk_18.out.grow hb
  have Ck_19 : Hid (Blk w19 CM Ccs 78) := Ck_18.out.grow hb
  clear hb cP00 cP01 cP02 cP03
  have cP00 : w19.cell? ⟨w.heap.size, 0, none⟩ = some (.slice a0 l0.length cap0) := (P0_19.out).cell 0
  have cP01 : w19.cell? ⟨w.heap.size, 1, none⟩ = some (.int .i64 s0) := (P0_19.out).cell 1
  have cP02 : w19.cell? ⟨w.heap.size, 2, none⟩ = some (.int .i64 e0) := (P0_19.out).cell 2
  have cP03 : w19.cell? ⟨w.heap.size, 3, none⟩ = some (.string n0) := (P0_19.out).cell 3
  go_wp2_with fail
  refine (implKey_any _ _ _ _ l0 s0 e0 n0 l1 _ ((held_reads Ck_19.out Ch.out)) ((heldS_reads Dk_19.out Dh.out)) K0.out M1.out).mono ?_
  rintro e w20 ⟨⟨VM, Vc, rfl, hM, Vcs, hk, hs, hh⟩, hb⟩
  have Vk_20 : Hid (Blk w20 VM Vcs 78) := hk
  have Vs : Hid ((projB l0 l1).length * 2 ≤ Vcs.size) := hs
  have Vh : Hid (Held Vcs (projB l0 l1) (projB l0 l1).length) := hh
  have U_Vk : Hid (w19.heap.size ≤ VM ∧ VM < w20.heap.size) := ⟨hM, hk.lt⟩
  clear hk hs hh hM
  have B20 : Hid (Below w.heap.size w w20) := grow_on B19.out hb
  have Z20 : Hid (w19.heap.size ≤ w20.heap.size) := hb.size
  have P0_20 : Hid (Blk w20 w.heap.size #[.slice a0 l0.length cap0, .int .i64 s0, .int .i64 e0, .string n0] 54) := P0_19.out.grow hb
  have Wk_20 : Hid (Blk w20 WM Wcs 78) := Wk_19.out.grow hb
  have Hk_20 : Hid (Blk w20 GM Gds 78) := Hk_19.out.grow hb
  have Ck_20 : Hid (Blk w20 CM Ccs 78) := Ck_19.out.grow hb
  have Dk_20 : Hid (Blk w20 w18.heap.size Dcs 9) := Dk_19.out.grow hb
  clear hb cP00 cP01 cP02 cP03
  have cP00 : w20.cell? ⟨w.heap.size, 0, none⟩ = some (.slice a0 l0.length cap0) := (P0_20.out).cell 0
  have cP01 : w20.cell? ⟨w.heap.size, 1, none⟩ = some (.int .i64 s0) := (P0_20.out).cell 1
  have cP02 : w20.cell? ⟨w.heap.size, 2, none⟩ = some (.int .i64 e0) := (P0_20.out).cell 2
  have cP03 : w20.cell? ⟨w.heap.size, 3, none⟩ = some (.string n0) := (P0_20.out).cell 3
  go_wp2_with fail
  refine (Go.Proofs.Ytmachabgnbpeaaa.LabT.eq_any _ _ _ _ (projB l0 l1) (projB l0 l1) _ (held_reads Vk_20.out Vh.out) (held_reads Wk_20.out Wh.out) MP.out MP.out).mono ?_
  rintro e w21 ⟨rfl, hb⟩
  have B21 : Hid (Below w.heap.size w w21) := grow_on B20.out hb
  have Z21 : Hid (w20.heap.size ≤ w21.heap.size) := hb.size
  have P0_21 : Hid (Blk w21 w.heap.size #[.slice a0 l0.length cap0, .int .i64 s0, .int .i64 e0, .string n0] 54) := P0_20.out.grow hb
  have Wk_21 : Hid (Blk w21 WM Wcs 78) := Wk_20.out.grow hb
  have Hk_21 : Hid (Blk w21 GM Gds 78) := Hk_20.out.grow hb
  have Vk_21 : Hid (Blk w21 VM Vcs 78) := Vk_20.out.grow hb
  clear hb cP00 cP01 cP02 cP03
  have hq : ¬ ((1 + 2 * (projB l0 l1).length : Nat) : Int) < 0 := by omega
  have cP00 : w21.cell? ⟨w.heap.size, 0, none⟩ = some (.slice a0 l0.length cap0) := (P0_21.out).cell 0
  have cP01 : w21.cell? ⟨w.heap.size, 1, none⟩ = some (.int .i64 s0) := (P0_21.out).cell 1
  have cP02 : w21.cell? ⟨w.heap.size, 2, none⟩ = some (.int .i64 e0) := (P0_21.out).cell 2
  have cP03 : w21.cell? ⟨w.heap.size, 3, none⟩ = some (.string n0) := (P0_21.out).cell 3
  go_wp2_with fail
  refine (held_any GM (projB l0 l1).length Gc 1 Gds _ Hk_21.out HMk.out KP.out (by omega) (by omega)).mono ?_
  rintro e w22 ⟨rfl, hb⟩
  have B22 : Hid (Below w.heap.size w w22) := grow_on B21.out hb
  have Z22 : Hid (w21.heap.size ≤ w22.heap.size) := hb.size
  have P0_22 : Hid (Blk w22 w.heap.size #[.slice a0 l0.length cap0, .int .i64 s0, .int .i64 e0, .string n0] 54) := P0_21.out.grow hb
  have Wk_22 : Hid (Blk w22 WM Wcs 78) := Wk_21.out.grow hb
  have Hk_22 : Hid (Blk w22 GM Gds 78) := Hk_21.out.grow hb
  have Vk_22 : Hid (Blk w22 VM Vcs 78) := Vk_21.out.grow hb
  clear hb cP00 cP01 cP02 cP03
  have cP00 : w22.cell? ⟨w.heap.size, 0, none⟩ = some (.slice a0 l0.length cap0) := (P0_22.out).cell 0
  have cP01 : w22.cell? ⟨w.heap.size, 1, none⟩ = some (.int .i64 s0) := (P0_22.out).cell 1
  have cP02 : w22.cell? ⟨w.heap.size, 2, none⟩ = some (.int .i64 e0) := (P0_22.out).cell 2
  have cP03 : w22.cell? ⟨w.heap.size, 3, none⟩ = some (.string n0) := (P0_22.out).cell 3
  go_wp2
  go_ret
  exact ⟨rfl, B22.out⟩
theorem own : ownKnob Try.prog.godebug = none := by kernel_rfl
theorem laidOut : laidOutB Try.prog = true := by kernel_rfl
set_option maxRecDepth 100000 in
theorem lifted (os : Os) (started : os.Started) (H : Type) (enc : TypeId × Value → H) :
    ReturnsInHanded {} Try.checked os 6 .any (Rows.fnExactKeyOfSpec.pre6 enc Try.prog Try.f6 Rows.fnExactKeyOfRow.domain false) (Rows.fnExactKeyOfSpec.post enc Try.prog Try.f6 false true false false) := by
  refine returnsInHanded_of_change (C := Try.checked) own started (by kernel_rfl) Try.func6
    (ChangeSpec.witness6 (enc := enc) (C := Try.checked) false ⟨#[], #[.agg #[.slice none 0 0, .int .i64 0, .int .i64 0, .string ⟨#[]⟩], .slice none 0 0], []⟩ 8 (by kernel_rfl) (by kernel_rfl) (by kernel_rfl) (by kernel_rfl)) ?_
  intro W base args ds gs before hval0 hW hcnd _
  have hval : ∀ (j : Nat) t v, Try.f6.params[j]? = some t → args[j]? = some v → Value.okWide Try.prog W .any base t v := hval0
  have hW' := hW
  obtain ⟨p, q, hA0, hV, rfl, hfz, hnd⟩ := hW
  have hA : DataW.TrodAll enc Try.prog W 0 (fun _ => true) true Try.f6.params.toList args.toList ds p := hA0
  rw [Try.params6] at hA hval
  obtain ⟨v0, vs0, d0, ds0, p0, q0, hargs, rfl, rfl, h0, r0⟩ := trodAll_cons hA
  obtain ⟨v1, vs1, d1, ds1, p1, q1, rfl, rfl, rfl, h1, r1⟩ := trodAll_cons r0
  obtain ⟨rfl, rfl, rfl⟩ := trodAll_nil r1
  obtain rfl : args = #[v0, v1] := by cases args; simp_all
  obtain ⟨rfl, rfl⟩ := trodVars_none hV
  have k0 := h0
  have lt0 : ∀ x ∈ p0, x.block < W.heap.size := by obtain ⟨m, hm⟩ := k0; exact DataW.trod_lt m _ _ _ hm
  obtain ⟨a0, cap0, l0, s0, e0, n0, rfl, w0⟩ := Go.Proofs.Ytmachabgnbpeaaa.Alm.open_alarm (hval 0 54 v0 rfl rfl) h0
  obtain ⟨a1, len1, cap1, rfl⟩ := okWide_slice Try.underlying25 (hval 1 25 v1 rfl rfl)
  have k1 := h1
  have lt1 : ∀ x ∈ p1, x.block < W.heap.size := by obtain ⟨m, hm⟩ := k1; exact DataW.trod_lt m _ _ _ hm
  obtain ⟨l1, rfl, w1, m1, f1⟩ := Go.Proofs.Ytmachabgnbpeaaa.StrT.open_strs h1
  clear hA0 hval0
  refine (walk a0 cap0 l0 s0 e0 n0 a1 cap1 l1 W w0 w1 m1 f1).mono fun e W' ⟨he, bel⟩ => ?_
  subst he
  exact ⟨_, rfl, _, _, _, [], _, [], hW', trodAll_mk1 (shut_bool Try.underlying4 _), (trodAll_cons_mk (Below.trod laidOut (by kernel_rfl) (of_decide_eq_true (by kernel_rfl)) k0 bel lt0) (trodAll_cons_mk (Below.trod laidOut (by kernel_rfl) (of_decide_eq_true (by kernel_rfl)) k1 bel lt1) trodAll_mk0)), rfl, bel.frame _, fun h => by cases h⟩

theorem over : Rows.fnExactKeyOfRow.holds Try.pinned (OpenSpec.ofChange Rows.fnExactKeyOfSpec) :=
  OpenClaim.holds_of_wide 6 Try.f6 rfl rfl rfl rfl rfl rfl rfl ⟨rfl, rfl, rfl, rfl, rfl⟩ rfl rfl rfl rfl rfl (by kernel_rfl) Try.func6 (by kernel_rfl)
    (of_decide_eq_true (by kernel_rfl)) (by unfold Func.isWrapper; first | (rw [if_pos (by decide +kernel)]; kernel_rfl) | (rw [if_neg (by decide +kernel)]; exact ⟨rfl, rfl⟩))
    (fun os started H enc _ => lifted os started H enc)

end Go.Proofs.Ytmachabgnbpeaaa.FnExactKeyOf
namespace Go.Proofs.Ytmachabgnbpeaaa
theorem fnExactKeyOf_holds : Rows.FnExactKeyOfSaid := FnExactKeyOf.over
#print axioms fnExactKeyOf_holds
end Go.Proofs.Ytmachabgnbpeaaa
