/-
  PROVED: at every slice of labels and every slice of strings impl.Project answers as spec.Project, leaves them as they were, keeps nothing of them, and its answer lies in memory of its own, so the law laws.FnExactProject returns true, whatever its arguments. No condition.
-/
import Derived.Test.YtmachabgnbpeaaaRows
import Derived.WalkKit
import Derived.ProofKit
import Derived.OpenShut
import Derived.ShutString
import Derived.ChangeOld
import Derived.Below
import Derived.WalkLawsBesides
import Derived.WalkSpells
import Derived.Test.YtmachabgnbpeaaaPro
import Derived.Test.YtmachabgnbpeaaaMark
import Derived.Test.YtmachabgnbpeaaaStrT
namespace Go.Proofs.Ytmachabgnbpeaaa.FnExactProject
open Go.ChangeShapes Go.WideShapes Go.ChangeAt Go.RowKit
open Go.ChangeMaps (open_string shut_string)
set_option linter.unusedVariables false

open Go.Proofs.Ytmachabgnbpeaaa.Labs Go.Proofs.Ytmachabgnbpeaaa.LabS Go.Proofs.Ytmachabgnbpeaaa.LabT Go.Proofs.Ytmachabgnbpeaaa.Over Go.Proofs.Ytmachabgnbpeaaa.Blk Go.Proofs.Ytmachabgnbpeaaa.Pro Go.Proofs.Ytmachabgnbpeaaa.Mark
open Go.Proofs.Ytmachabgnbpeaaa.StrT (FitsS heldS_reads HeldS)
open Go.Proofs.Ytmachabgnbpeaaa.LabR (Own)
set_option maxRecDepth 100000 in
set_option maxHeartbeats 8000000 in
theorem walk (a0 : Option Addr) (cap0 : Nat) (l0 : List Lab) (a1 : Option Addr) (cap1 : Nat) (l1 : List ByteArray) (w : World) (r0 : Reads w a0 l0) (m0 : l0.length ≤ maxLen) (f0 : Fits l0) (r1 : RdS w a1 l1) (m1 : l1.length ≤ maxLen) (f1 : FitsS l1) :
    Calls Try.prog 5 #[.slice a0 l0.length cap0, .slice a1 l1.length cap1] w fun e w' => e = .returned (.bool true) ∧ Below w.heap.size w w' := by
  have R0 : Hid (Reads w a0 l0) := r0
  have M0 : Hid (l0.length ≤ maxLen) := m0
  have F0 : Hid (Fits l0) := f0
  clear r0 m0 f0
  have R1 : Hid (RdS w a1 l1) := r1
  have M1 : Hid (l1.length ≤ maxLen) := m1
  have F1 : Hid (FitsS l1) := f1
  clear r1 m1 f1
  have B0 : Hid (Below w.heap.size w w) := Below.refl _ _
  go_enter Try.func5, Try.ntmps5
  go_wp2_with fail
  refine (Go.Proofs.Ytmachabgnbpeaaa.LabT.sz_any a0 cap0 l0 1048576 _ (R0.out.below B0.out) M0.out F0.out (by omega) (by omega)).mono ?_
  rintro e w1 ⟨⟨k0, rfl, p0, hn⟩, hb⟩
  have B1 : Hid (Below w.heap.size w w1) := grow_on B0.out hb
  have Z1 : Hid (w.heap.size ≤ w1.heap.size) := hb.size
  clear hb
  by_cases g0 : k0 < 0
  · clear hn
    go_wp2
    go_ret
    exact ⟨rfl, B1.out⟩
  have K0 : Hid (l0.length ≤ 1048576) := by have := hn (by omega); show l0.length ≤ 1048576; omega
  clear hn
  go_wp2_with fail
  refine (Go.Proofs.Ytmachabgnbpeaaa.StrT.sz_any a1 cap1 l1 k0 _ (R1.out.below B1.out) M1.out F1.out (by omega) (by omega)).mono ?_
  rintro e w2 ⟨⟨k1, rfl, p1, hn⟩, hb⟩
  have B2 : Hid (Below w.heap.size w w2) := grow_on B1.out hb
  have Z2 : Hid (w1.heap.size ≤ w2.heap.size) := hb.size
  clear hb
  by_cases g1 : k1 < 0
  · clear hn
    go_wp2
    go_ret
    exact ⟨rfl, B2.out⟩
  have K1 : Hid (l1.length ≤ 1048576) := by have := hn (by omega); show l1.length ≤ 1048576; omega
  clear hn
  have KP : Hid ((projB l0 l1).length ≤ 1048576) := Nat.le_trans (proj_len l0 l1) K0.out
  have MP : Hid ((projB l0 l1).length ≤ maxLen) := Nat.le_trans (proj_len l0 l1) M0.out
  go_wp2_with fail
  refine (Go.Proofs.Ytmachabgnbpeaaa.LabT.to_any a0 cap0 l0 _ (R0.out.below B2.out) K0.out).mono ?_
  rintro e w3 ⟨rfl, ⟨Scs, hk, hs, hh⟩, hb⟩
  have Sk_3 : Hid (Blk w3 w2.heap.size Scs 78) := hk
  have Ss : Hid (Scs.size = l0.length * 2) := hs
  have Sh : Hid (Held Scs l0 l0.length) := hh
  have U_Sk : Hid (w2.heap.size ≤ w2.heap.size ∧ w2.heap.size < w3.heap.size) := ⟨Nat.le_refl _, hk.lt⟩
  clear hk hs hh
  have B3 : Hid (Below w.heap.size w w3) := grow_on B2.out hb
  have Z3 : Hid (w2.heap.size ≤ w3.heap.size) := hb.size
  clear hb
  go_wp2_with fail
  refine (Go.Proofs.Ytmachabgnbpeaaa.StrT.to_any a1 cap1 l1 _ (R1.out.below B3.out) K1.out).mono ?_
  rintro e w4 ⟨rfl, ⟨Tcs, hk, hs, hh⟩, hb⟩
  have Tk_4 : Hid (Blk w4 w3.heap.size Tcs 9) := hk
  have Ts : Hid (Tcs.size = l1.length) := hs
  have Th : Hid (HeldS Tcs l1) := hh
  have U_Tk : Hid (w3.heap.size ≤ w3.heap.size ∧ w3.heap.size < w4.heap.size) := ⟨Nat.le_refl _, hk.lt⟩
  clear hk hs hh
  have B4 : Hid (Below w.heap.size w w4) := grow_on B3.out hb
  have Z4 : Hid (w3.heap.size ≤ w4.heap.size) := hb.size
  have Sk_4 : Hid (Blk w4 w2.heap.size Scs 78) := Sk_3.out.grow hb
  clear hb
  go_wp2_with fail
  refine (specPro_any _ _ _ _ l0 l1 _ ((held_reads Sk_4.out Sh.out)) ((heldS_reads Tk_4.out Th.out)) K0.out M1.out).mono ?_
  rintro e w5 ⟨⟨WM, Wc, rfl, hM, Wcs, hk, hs, hh⟩, hb⟩
  have Wk_5 : Hid (Blk w5 WM Wcs 78) := hk
  have Ws : Hid ((projB l0 l1).length * 2 ≤ Wcs.size) := hs
  have Wh : Hid (Held Wcs (projB l0 l1) (projB l0 l1).length) := hh
  have U_Wk : Hid (w4.heap.size ≤ WM ∧ WM < w5.heap.size) := ⟨hM, hk.lt⟩
  clear hk hs hh hM
  have B5 : Hid (Below w.heap.size w w5) := grow_on B4.out hb
  have Z5 : Hid (w4.heap.size ≤ w5.heap.size) := hb.size
  have Sk_5 : Hid (Blk w5 w2.heap.size Scs 78) := Sk_4.out.grow hb
  have Tk_5 : Hid (Blk w5 w3.heap.size Tcs 9) := Tk_4.out.grow hb
  clear hb
  go_wp2_with fail
  refine (Go.Proofs.Ytmachabgnbpeaaa.LabT.to_any a0 cap0 l0 _ (R0.out.below B5.out) K0.out).mono ?_
  rintro e w6 ⟨rfl, ⟨Xcs, hk, hs, hh⟩, hb⟩
  have Xk_6 : Hid (Blk w6 w5.heap.size Xcs 78) := hk
  have Xs : Hid (Xcs.size = l0.length * 2) := hs
  have Xh : Hid (Held Xcs l0 l0.length) := hh
  have U_Xk : Hid (w5.heap.size ≤ w5.heap.size ∧ w5.heap.size < w6.heap.size) := ⟨Nat.le_refl _, hk.lt⟩
  clear hk hs hh
  have B6 : Hid (Below w.heap.size w w6) := grow_on B5.out hb
  have Z6 : Hid (w5.heap.size ≤ w6.heap.size) := hb.size
  have Wk_6 : Hid (Blk w6 WM Wcs 78) := Wk_5.out.grow hb
  clear hb
  go_wp2_with fail
  refine (Go.Proofs.Ytmachabgnbpeaaa.StrT.to_any a1 cap1 l1 _ (R1.out.below B6.out) K1.out).mono ?_
  rintro e w7 ⟨rfl, ⟨Ycs, hk, hs, hh⟩, hb⟩
  have Yk_7 : Hid (Blk w7 w6.heap.size Ycs 9) := hk
  have Ys : Hid (Ycs.size = l1.length) := hs
  have Yh : Hid (HeldS Ycs l1) := hh
  have U_Yk : Hid (w6.heap.size ≤ w6.heap.size ∧ w6.heap.size < w7.heap.size) := ⟨Nat.le_refl _, hk.lt⟩
  clear hk hs hh
  have B7 : Hid (Below w.heap.size w w7) := grow_on B6.out hb
  have Z7 : Hid (w6.heap.size ≤ w7.heap.size) := hb.size
  have Wk_7 : Hid (Blk w7 WM Wcs 78) := Wk_6.out.grow hb
  have Xk_7 : Hid (Blk w7 w5.heap.size Xcs 78) := Xk_6.out.grow hb
  clear hb
  go_wp2_with fail
  refine (implPro_any _ _ _ _ l0 l1 _ ((held_reads Xk_7.out Xh.out)) ((heldS_reads Yk_7.out Yh.out)) K0.out M1.out).mono ?_
  rintro e w8 ⟨⟨GM, Gc, rfl, hM, Gcs, hk, hs, hh⟩, hb⟩
  have Gk_8 : Hid (Blk w8 GM Gcs 78) := hk
  have Gs : Hid ((projB l0 l1).length * 2 ≤ Gcs.size) := hs
  have Gh : Hid (Held Gcs (projB l0 l1) (projB l0 l1).length) := hh
  have U_Gk : Hid (w7.heap.size ≤ GM ∧ GM < w8.heap.size) := ⟨hM, hk.lt⟩
  clear hk hs hh hM
  have B8 : Hid (Below w.heap.size w w8) := grow_on B7.out hb
  have Z8 : Hid (w7.heap.size ≤ w8.heap.size) := hb.size
  have Wk_8 : Hid (Blk w8 WM Wcs 78) := Wk_7.out.grow hb
  have Xk_8 : Hid (Blk w8 w5.heap.size Xcs 78) := Xk_7.out.grow hb
  have Yk_8 : Hid (Blk w8 w6.heap.size Ycs 9) := Yk_7.out.grow hb
  clear hb
  have eQ : decide ((projB l0 l1) = (projB l0 l1)) = true := decide_eq_true rfl
  have e0' : decide (l0 = l0) = true := decide_eq_true rfl
  go_wp2_with fail
  refine (Go.Proofs.Ytmachabgnbpeaaa.LabT.eq_any _ _ _ _ (projB l0 l1) (projB l0 l1) _ (held_reads Gk_8.out Gh.out) (held_reads Wk_8.out Wh.out) MP.out MP.out).mono ?_
  rintro e w9 ⟨rfl, hb⟩
  have B9 : Hid (Below w.heap.size w w9) := grow_on B8.out hb
  have Z9 : Hid (w8.heap.size ≤ w9.heap.size) := hb.size
  have Wk_9 : Hid (Blk w9 WM Wcs 78) := Wk_8.out.grow hb
  have Xk_9 : Hid (Blk w9 w5.heap.size Xcs 78) := Xk_8.out.grow hb
  have Yk_9 : Hid (Blk w9 w6.heap.size Ycs 9) := Yk_8.out.grow hb
  have Gk_9 : Hid (Blk w9 GM Gcs 78) := Gk_8.out.grow hb
  clear hb
  go_wp2_with fail
  refine (Go.Proofs.Ytmachabgnbpeaaa.LabT.to_any a0 cap0 l0 _ (R0.out.below B9.out) K0.out).mono ?_
  rintro e w10 ⟨rfl, ⟨Zcs, hk, hs, hh⟩, hb⟩
  have Zk_10 : Hid (Blk w10 w9.heap.size Zcs 78) := hk
  have Zs : Hid (Zcs.size = l0.length * 2) := hs
  have Zh : Hid (Held Zcs l0 l0.length) := hh
  have U_Zk : Hid (w9.heap.size ≤ w9.heap.size ∧ w9.heap.size < w10.heap.size) := ⟨Nat.le_refl _, hk.lt⟩
  clear hk hs hh
  have B10 : Hid (Below w.heap.size w w10) := grow_on B9.out hb
  have Z10 : Hid (w9.heap.size ≤ w10.heap.size) := hb.size
  have Wk_10 : Hid (Blk w10 WM Wcs 78) := Wk_9.out.grow hb
  have Xk_10 : Hid (Blk w10 w5.heap.size Xcs 78) := Xk_9.out.grow hb
  have Yk_10 : Hid (Blk w10 w6.heap.size Ycs 9) := Yk_9.out.grow hb
  have Gk_10 : Hid (Blk w10 GM Gcs 78) := Gk_9.out.grow hb
  clear hb
  go_wp2_with fail
  refine (Go.Proofs.Ytmachabgnbpeaaa.LabT.eq_any _ _ _ _ l0 l0 _ (held_reads Xk_10.out Xh.out) (held_reads Zk_10.out Zh.out) M0.out M0.out).mono ?_
  rintro e w11 ⟨rfl, hb⟩
  have B11 : Hid (Below w.heap.size w w11) := grow_on B10.out hb
  have Z11 : Hid (w10.heap.size ≤ w11.heap.size) := hb.size
  have Wk_11 : Hid (Blk w11 WM Wcs 78) := Wk_10.out.grow hb
  have Xk_11 : Hid (Blk w11 w5.heap.size Xcs 78) := Xk_10.out.grow hb
  have Yk_11 : Hid (Blk w11 w6.heap.size Ycs 9) := Yk_10.out.grow hb
  have Gk_11 : Hid (Blk w11 GM Gcs 78) := Gk_10.out.grow hb
  have Zk_11 : Hid (Blk w11 w9.heap.size Zcs 78) := Zk_10.out.grow hb
  clear hb
  go_wp2_with fail
  refine (Go.Proofs.Ytmachabgnbpeaaa.StrT.to_any a1 cap1 l1 _ (R1.out.below B11.out) K1.out).mono ?_
  rintro e w12 ⟨rfl, ⟨Z1cs, hk, hs, hh⟩, hb⟩
  have Z1k_12 : Hid (Blk w12 w11.heap.size Z1cs 9) := hk
  have Z1s : Hid (Z1cs.size = l1.length) := hs
  have Z1h : Hid (HeldS Z1cs l1) := hh
  have U_Z1k : Hid (w11.heap.size ≤ w11.heap.size ∧ w11.heap.size < w12.heap.size) := ⟨Nat.le_refl _, hk.lt⟩
  clear hk hs hh
  have B12 : Hid (Below w.heap.size w w12) := grow_on B11.out hb
  have Z12 : Hid (w11.heap.size ≤ w12.heap.size) := hb.size
  have Wk_12 : Hid (Blk w12 WM Wcs 78) := Wk_11.out.grow hb
  have Xk_12 : Hid (Blk w12 w5.heap.size Xcs 78) := Xk_11.out.grow hb
  have Yk_12 : Hid (Blk w12 w6.heap.size Ycs 9) := Yk_11.out.grow hb
  have Gk_12 : Hid (Blk w12 GM Gcs 78) := Gk_11.out.grow hb
  clear hb
  go_wp2_with fail
  refine (Go.Proofs.Ytmachabgnbpeaaa.StrT.eq_any _ _ _ _ l1 _ (heldS_reads Yk_12.out Yh.out) (heldS_reads Z1k_12.out Z1h.out) M1.out).mono ?_
  rintro e w13 ⟨rfl, hb⟩
  have B13 : Hid (Below w.heap.size w w13) := grow_on B12.out hb
  have Z13 : Hid (w12.heap.size ≤ w13.heap.size) := hb.size
  have Wk_13 : Hid (Blk w13 WM Wcs 78) := Wk_12.out.grow hb
  have Xk_13 : Hid (Blk w13 w5.heap.size Xcs 78) := Xk_12.out.grow hb
  have Yk_13 : Hid (Blk w13 w6.heap.size Ycs 9) := Yk_12.out.grow hb
  have Gk_13 : Hid (Blk w13 GM Gcs 78) := Gk_12.out.grow hb
  have Z1k_13 : Hid (Blk w13 w11.heap.size Z1cs 9) := Z1k_12.out.grow hb
  clear hb
  go_wp2_with fail
  refine (mark_any w5.heap.size l0.length l0.length 1 Xcs _ Xk_13.out (by rw [Xs.out]; exact Nat.le_refl _) K0.out (by omega) (by omega)).mono ?_
  rintro e w14 ⟨rfl, -, ha⟩
  have B14 : Hid (Below w.heap.size w w14) := B13.out.trans (ha.low (by have h0 := Z1.out; have h1 := Z2.out; have h2 := Z3.out; have h3 := Z4.out; have h4 := Z5.out; have h5 := Z6.out; have h6 := Z7.out; have h7 := Z8.out; have h8 := Z9.out; have h9 := Z10.out; have h10 := Z11.out; have h11 := Z12.out; have h12 := Z13.out; have h13 := U_Sk.out; have h14 := U_Tk.out; have h15 := U_Wk.out; have h16 := U_Xk.out; have h17 := U_Yk.out; have h18 := U_Gk.out; have h19 := U_Zk.out; have h20 := U_Z1k.out; omega) B13.out.size)
  have Z14 : Hid (w13.heap.size ≤ w14.heap.size) := ha.size
  have Wk_14 : Hid (Blk w14 WM Wcs 78) := ha.blk Wk_13.out (by have h0 := Z1.out; have h1 := Z2.out; have h2 := Z3.out; have h3 := Z4.out; have h4 := Z5.out; have h5 := Z6.out; have h6 := Z7.out; have h7 := Z8.out; have h8 := Z9.out; have h9 := Z10.out; have h10 := Z11.out; have h11 := Z12.out; have h12 := Z13.out; have h13 := Z14.out; have h14 := U_Sk.out; have h15 := U_Tk.out; have h16 := U_Wk.out; have h17 := U_Xk.out; have h18 := U_Yk.out; have h19 := U_Gk.out; have h20 := U_Zk.out; have h21 := U_Z1k.out; omega)
  have Yk_14 : Hid (Blk w14 w6.heap.size Ycs 9) := ha.blk Yk_13.out (by have h0 := Z1.out; have h1 := Z2.out; have h2 := Z3.out; have h3 := Z4.out; have h4 := Z5.out; have h5 := Z6.out; have h6 := Z7.out; have h7 := Z8.out; have h8 := Z9.out; have h9 := Z10.out; have h10 := Z11.out; have h11 := Z12.out; have h12 := Z13.out; have h13 := Z14.out; have h14 := U_Sk.out; have h15 := U_Tk.out; have h16 := U_Wk.out; have h17 := U_Xk.out; have h18 := U_Yk.out; have h19 := U_Gk.out; have h20 := U_Zk.out; have h21 := U_Z1k.out; omega)
  have Gk_14 : Hid (Blk w14 GM Gcs 78) := ha.blk Gk_13.out (by have h0 := Z1.out; have h1 := Z2.out; have h2 := Z3.out; have h3 := Z4.out; have h4 := Z5.out; have h5 := Z6.out; have h6 := Z7.out; have h7 := Z8.out; have h8 := Z9.out; have h9 := Z10.out; have h10 := Z11.out; have h11 := Z12.out; have h12 := Z13.out; have h13 := Z14.out; have h14 := U_Sk.out; have h15 := U_Tk.out; have h16 := U_Wk.out; have h17 := U_Xk.out; have h18 := U_Yk.out; have h19 := U_Gk.out; have h20 := U_Zk.out; have h21 := U_Z1k.out; omega)
  clear ha 
  have HM1 : Hid (1 ≤ 1 + 2 * l0.length ∧ 1 + 2 * l0.length ≤ 10000000) := by have := K0.out; exact ⟨by omega, by omega⟩
  generalize 1 + 2 * l0.length = m1 at HM1 ⊢
  go_wp2_with fail
  refine (Go.Proofs.Ytmachabgnbpeaaa.StrT.mark_any w6.heap.size l1.length l1.length m1 Ycs _ Yk_14.out (by rw [Ys.out]; exact Nat.le_refl _) K1.out HM1.out.1 HM1.out.2).mono ?_
  rintro e w15 ⟨rfl, ha⟩
  have B15 : Hid (Below w.heap.size w w15) := B14.out.trans (ha.low (by have h0 := Z1.out; have h1 := Z2.out; have h2 := Z3.out; have h3 := Z4.out; have h4 := Z5.out; have h5 := Z6.out; have h6 := Z7.out; have h7 := Z8.out; have h8 := Z9.out; have h9 := Z10.out; have h10 := Z11.out; have h11 := Z12.out; have h12 := Z13.out; have h13 := Z14.out; have h14 := U_Sk.out; have h15 := U_Tk.out; have h16 := U_Wk.out; have h17 := U_Xk.out; have h18 := U_Yk.out; have h19 := U_Gk.out; have h20 := U_Zk.out; have h21 := U_Z1k.out; omega) B14.out.size)
  have Z15 : Hid (w14.heap.size ≤ w15.heap.size) := ha.size
  have Wk_15 : Hid (Blk w15 WM Wcs 78) := ha.blk Wk_14.out (by have h0 := Z1.out; have h1 := Z2.out; have h2 := Z3.out; have h3 := Z4.out; have h4 := Z5.out; have h5 := Z6.out; have h6 := Z7.out; have h7 := Z8.out; have h8 := Z9.out; have h9 := Z10.out; have h10 := Z11.out; have h11 := Z12.out; have h12 := Z13.out; have h13 := Z14.out; have h14 := Z15.out; have h15 := U_Sk.out; have h16 := U_Tk.out; have h17 := U_Wk.out; have h18 := U_Xk.out; have h19 := U_Yk.out; have h20 := U_Gk.out; have h21 := U_Zk.out; have h22 := U_Z1k.out; omega)
  have Gk_15 : Hid (Blk w15 GM Gcs 78) := ha.blk Gk_14.out (by have h0 := Z1.out; have h1 := Z2.out; have h2 := Z3.out; have h3 := Z4.out; have h4 := Z5.out; have h5 := Z6.out; have h6 := Z7.out; have h7 := Z8.out; have h8 := Z9.out; have h9 := Z10.out; have h10 := Z11.out; have h11 := Z12.out; have h12 := Z13.out; have h13 := Z14.out; have h14 := Z15.out; have h15 := U_Sk.out; have h16 := U_Tk.out; have h17 := U_Wk.out; have h18 := U_Xk.out; have h19 := U_Yk.out; have h20 := U_Gk.out; have h21 := U_Zk.out; have h22 := U_Z1k.out; omega)
  clear ha 
  have hq : ¬ ((m1 + l1.length : Nat) : Int) < 0 := by omega
  generalize m1 + l1.length = m2 at hq ⊢
  go_wp2_with fail
  refine (Go.Proofs.Ytmachabgnbpeaaa.LabT.eq_any _ _ _ _ (projB l0 l1) (projB l0 l1) _ (held_reads Gk_15.out Gh.out) (held_reads Wk_15.out Wh.out) MP.out MP.out).mono ?_
  rintro e w16 ⟨rfl, hb⟩
  have B16 : Hid (Below w.heap.size w w16) := grow_on B15.out hb
  have Z16 : Hid (w15.heap.size ≤ w16.heap.size) := hb.size
  have Wk_16 : Hid (Blk w16 WM Wcs 78) := Wk_15.out.grow hb
  have Gk_16 : Hid (Blk w16 GM Gcs 78) := Gk_15.out.grow hb
  clear hb
  clear hq
  go_wp2_with fail
  refine (mark_any GM (projB l0 l1).length Gc 1 Gcs _ Gk_16.out Gs.out KP.out (by omega) (by omega)).mono ?_
  rintro e w17 ⟨rfl, ⟨Gds, hk, -, hm⟩, ha⟩
  have B17 : Hid (Below w.heap.size w w17) := B16.out.trans (ha.low (by have h0 := Z1.out; have h1 := Z2.out; have h2 := Z3.out; have h3 := Z4.out; have h4 := Z5.out; have h5 := Z6.out; have h6 := Z7.out; have h7 := Z8.out; have h8 := Z9.out; have h9 := Z10.out; have h10 := Z11.out; have h11 := Z12.out; have h12 := Z13.out; have h13 := Z14.out; have h14 := Z15.out; have h15 := Z16.out; have h16 := U_Sk.out; have h17 := U_Tk.out; have h18 := U_Wk.out; have h19 := U_Xk.out; have h20 := U_Yk.out; have h21 := U_Gk.out; have h22 := U_Zk.out; have h23 := U_Z1k.out; omega) B16.out.size)
  have Z17 : Hid (w16.heap.size ≤ w17.heap.size) := ha.size
  have Wk_17 : Hid (Blk w17 WM Wcs 78) := ha.blk Wk_16.out (by have h0 := Z1.out; have h1 := Z2.out; have h2 := Z3.out; have h3 := Z4.out; have h4 := Z5.out; have h5 := Z6.out; have h6 := Z7.out; have h7 := Z8.out; have h8 := Z9.out; have h9 := Z10.out; have h10 := Z11.out; have h11 := Z12.out; have h12 := Z13.out; have h13 := Z14.out; have h14 := Z15.out; have h15 := Z16.out; have h16 := Z17.out; have h17 := U_Sk.out; have h18 := U_Tk.out; have h19 := U_Wk.out; have h20 := U_Xk.out; have h21 := U_Yk.out; have h22 := U_Gk.out; have h23 := U_Zk.out; have h24 := U_Z1k.out; omega)
  have Hk_17 : Hid (Blk w17 GM Gds 78) := hk
  have HMk : Hid (Marked Gds 1 (projB l0 l1).length) := hm
  clear hk hm
  clear ha 
  have hq : ¬ ((1 + 2 * (projB l0 l1).length : Nat) : Int) < 0 := by omega
  go_wp2_with fail
  refine (held_any GM (projB l0 l1).length Gc 1 Gds _ Hk_17.out HMk.out KP.out (by omega) (by omega)).mono ?_
  rintro e w18 ⟨rfl, hb⟩
  have B18 : Hid (Below w.heap.size w w18) := grow_on B17.out hb
  have Z18 : Hid (w17.heap.size ≤ w18.heap.size) := hb.size
  have Wk_18 : Hid (Blk w18 WM Wcs 78) := Wk_17.out.grow hb
  have Hk_18 : Hid (Blk w18 GM Gds 78) := Hk_17.out.grow hb
  clear hb
  go_wp2_with fail
  refine (Go.Proofs.Ytmachabgnbpeaaa.LabT.to_any a0 cap0 l0 _ (R0.out.below B18.out) K0.out).mono ?_
  rintro e w19 ⟨rfl, ⟨Ccs, hk, hs, hh⟩, hb⟩
  have Ck_19 : Hid (Blk w19 w18.heap.size Ccs 78) := hk
  have Cs : Hid (Ccs.size = l0.length * 2) := hs
  have Ch : Hid (Held Ccs l0 l0.length) := hh
  have U_Ck : Hid (w18.heap.size ≤ w18.heap.size ∧ w18.heap.size < w19.heap.size) := ⟨Nat.le_refl _, hk.lt⟩
  clear hk hs hh
  have B19 : Hid (Below w.heap.size w w19) := grow_on B18.out hb
  have Z19 : Hid (w18.heap.size ≤ w19.heap.size) := hb.size
  have Wk_19 : Hid (Blk w19 WM Wcs 78) := Wk_18.out.grow hb
  have Hk_19 : Hid (Blk w19 GM Gds 78) := Hk_18.out.grow hb
  clear hb
  go_wp2_with fail
  refine (Go.Proofs.Ytmachabgnbpeaaa.StrT.to_any a1 cap1 l1 _ (R1.out.below B19.out) K1.out).mono ?_
  rintro e w20 ⟨rfl, ⟨Dcs, hk, hs, hh⟩, hb⟩
  have Dk_20 : Hid (Blk w20 w19.heap.size Dcs 9) := hk
  have Ds : Hid (Dcs.size = l1.length) := hs
  have Dh : Hid (HeldS Dcs l1) := hh
  have U_Dk : Hid (w19.heap.size ≤ w19.heap.size ∧ w19.heap.size < w20.heap.size) := ⟨Nat.le_refl _, hk.lt⟩
  clear hk hs hh
  have B20 : Hid (Below w.heap.size w w20) := grow_on B19.out hb
  have Z20 : Hid (w19.heap.size ≤ w20.heap.size) := hb.size
  have Wk_20 : Hid (Blk w20 WM Wcs 78) := Wk_19.out.grow hb
  have Hk_20 : Hid (Blk w20 GM Gds 78) := Hk_19.out.grow hb
  have Ck_20 : Hid (Blk w20 w18.heap.size Ccs 78) := Ck_19.out.grow hb
  clear hb
  go_wp2_with fail
  refine (implPro_any _ _ _ _ l0 l1 _ ((held_reads Ck_20.out Ch.out)) ((heldS_reads Dk_20.out Dh.out)) K0.out M1.out).mono ?_
  rintro e w21 ⟨⟨VM, Vc, rfl, hM, Vcs, hk, hs, hh⟩, hb⟩
  have Vk_21 : Hid (Blk w21 VM Vcs 78) := hk
  have Vs : Hid ((projB l0 l1).length * 2 ≤ Vcs.size) := hs
  have Vh : Hid (Held Vcs (projB l0 l1) (projB l0 l1).length) := hh
  have U_Vk : Hid (w20.heap.size ≤ VM ∧ VM < w21.heap.size) := ⟨hM, hk.lt⟩
  clear hk hs hh hM
  have B21 : Hid (Below w.heap.size w w21) := grow_on B20.out hb
  have Z21 : Hid (w20.heap.size ≤ w21.heap.size) := hb.size
  have Wk_21 : Hid (Blk w21 WM Wcs 78) := Wk_20.out.grow hb
  have Hk_21 : Hid (Blk w21 GM Gds 78) := Hk_20.out.grow hb
  have Ck_21 : Hid (Blk w21 w18.heap.size Ccs 78) := Ck_20.out.grow hb
  have Dk_21 : Hid (Blk w21 w19.heap.size Dcs 9) := Dk_20.out.grow hb
  clear hb
  go_wp2_with fail
  refine (Go.Proofs.Ytmachabgnbpeaaa.LabT.eq_any _ _ _ _ (projB l0 l1) (projB l0 l1) _ (held_reads Vk_21.out Vh.out) (held_reads Wk_21.out Wh.out) MP.out MP.out).mono ?_
  rintro e w22 ⟨rfl, hb⟩
  have B22 : Hid (Below w.heap.size w w22) := grow_on B21.out hb
  have Z22 : Hid (w21.heap.size ≤ w22.heap.size) := hb.size
  have Wk_22 : Hid (Blk w22 WM Wcs 78) := Wk_21.out.grow hb
  have Hk_22 : Hid (Blk w22 GM Gds 78) := Hk_21.out.grow hb
  have Vk_22 : Hid (Blk w22 VM Vcs 78) := Vk_21.out.grow hb
  clear hb
  have hq : ¬ ((1 + 2 * (projB l0 l1).length : Nat) : Int) < 0 := by omega
  go_wp2_with fail
  refine (held_any GM (projB l0 l1).length Gc 1 Gds _ Hk_22.out HMk.out KP.out (by omega) (by omega)).mono ?_
  rintro e w23 ⟨rfl, hb⟩
  have B23 : Hid (Below w.heap.size w w23) := grow_on B22.out hb
  have Z23 : Hid (w22.heap.size ≤ w23.heap.size) := hb.size
  have Wk_23 : Hid (Blk w23 WM Wcs 78) := Wk_22.out.grow hb
  have Hk_23 : Hid (Blk w23 GM Gds 78) := Hk_22.out.grow hb
  have Vk_23 : Hid (Blk w23 VM Vcs 78) := Vk_22.out.grow hb
  clear hb
  go_wp2
  go_ret
  exact ⟨rfl, B23.out⟩
theorem own : ownKnob Try.prog.godebug = none := by kernel_rfl
theorem laidOut : laidOutB Try.prog = true := by kernel_rfl
set_option maxRecDepth 100000 in
theorem lifted (os : Os) (started : os.Started) (H : Type) (enc : TypeId × Value → H) :
    ReturnsInHanded {} Try.checked os 5 .any (Rows.fnExactProjectSpec.pre6 enc Try.prog Try.f5 Rows.fnExactProjectRow.domain false) (Rows.fnExactProjectSpec.post enc Try.prog Try.f5 false true false false) := by
  refine returnsInHanded_of_change (C := Try.checked) own started (by kernel_rfl) Try.func5
    (ChangeSpec.witness6 (enc := enc) (C := Try.checked) false ⟨#[], #[.slice none 0 0, .slice none 0 0], []⟩ 8 (by kernel_rfl) (by kernel_rfl) (by kernel_rfl) (by kernel_rfl)) ?_
  intro W base args ds gs before hval0 hW hcnd _
  have hval : ∀ (j : Nat) t v, Try.f5.params[j]? = some t → args[j]? = some v → Value.okWide Try.prog W .any base t v := hval0
  have hW' := hW
  obtain ⟨p, q, hA0, hV, rfl, hfz, hnd⟩ := hW
  have hA : DataW.TrodAll enc Try.prog W 0 (fun _ => true) true Try.f5.params.toList args.toList ds p := hA0
  rw [Try.params5] at hA hval
  obtain ⟨v0, vs0, d0, ds0, p0, q0, hargs, rfl, rfl, h0, r0⟩ := trodAll_cons hA
  obtain ⟨v1, vs1, d1, ds1, p1, q1, rfl, rfl, rfl, h1, r1⟩ := trodAll_cons r0
  obtain ⟨rfl, rfl, rfl⟩ := trodAll_nil r1
  obtain rfl : args = #[v0, v1] := by cases args; simp_all
  obtain ⟨rfl, rfl⟩ := trodVars_none hV
  obtain ⟨a0, len0, cap0, rfl⟩ := okWide_slice Try.underlying48 (hval 0 48 v0 rfl rfl)
  have k0 := h0
  have lt0 : ∀ x ∈ p0, x.block < W.heap.size := by obtain ⟨m, hm⟩ := k0; exact DataW.trod_lt m _ _ _ hm
  obtain ⟨l0, rfl, w0, m0, f0⟩ : ∃ l : List (ByteArray × ByteArray), len0 = l.length ∧ Go.Proofs.Ytmachabgnbpeaaa.LabS.Reads W a0 l ∧ l.length ≤ maxLen ∧ Go.Proofs.Ytmachabgnbpeaaa.LabT.Fits l := by
    obtain ⟨fuel, hf⟩ := h0
    exact Go.Proofs.Ytmachabgnbpeaaa.LabT.open_labs (by simpa [Value.cells] using hf)
  obtain ⟨a1, len1, cap1, rfl⟩ := okWide_slice Try.underlying25 (hval 1 25 v1 rfl rfl)
  have k1 := h1
  have lt1 : ∀ x ∈ p1, x.block < W.heap.size := by obtain ⟨m, hm⟩ := k1; exact DataW.trod_lt m _ _ _ hm
  obtain ⟨l1, rfl, w1, m1, f1⟩ := Go.Proofs.Ytmachabgnbpeaaa.StrT.open_strs h1
  clear hA0 hval0
  refine (walk a0 cap0 l0 a1 cap1 l1 W w0 m0 f0 w1 m1 f1).mono fun e W' ⟨he, bel⟩ => ?_
  subst he
  exact ⟨_, rfl, _, _, _, [], _, [], hW', trodAll_mk1 (shut_bool Try.underlying4 _), (trodAll_cons_mk (Below.trod laidOut (by kernel_rfl) (of_decide_eq_true (by kernel_rfl)) k0 bel lt0) (trodAll_cons_mk (Below.trod laidOut (by kernel_rfl) (of_decide_eq_true (by kernel_rfl)) k1 bel lt1) trodAll_mk0)), rfl, bel.frame _, fun h => by cases h⟩

theorem over : Rows.fnExactProjectRow.holds Try.pinned (OpenSpec.ofChange Rows.fnExactProjectSpec) :=
  OpenClaim.holds_of_wide 5 Try.f5 rfl rfl rfl rfl rfl rfl rfl ⟨rfl, rfl, rfl, rfl, rfl⟩ rfl rfl rfl rfl rfl (by kernel_rfl) Try.func5 (by kernel_rfl)
    (of_decide_eq_true (by kernel_rfl)) (by unfold Func.isWrapper; first | (rw [if_pos (by decide +kernel)]; kernel_rfl) | (rw [if_neg (by decide +kernel)]; exact ⟨rfl, rfl⟩))
    (fun os started H enc _ => lifted os started H enc)

end Go.Proofs.Ytmachabgnbpeaaa.FnExactProject
namespace Go.Proofs.Ytmachabgnbpeaaa
theorem fnExactProject_holds : Rows.FnExactProjectSaid := FnExactProject.over
#print axioms fnExactProject_holds
end Go.Proofs.Ytmachabgnbpeaaa
