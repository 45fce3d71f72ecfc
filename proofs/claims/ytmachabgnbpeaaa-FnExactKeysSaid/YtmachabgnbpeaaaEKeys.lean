/-
  PROVED: at every slice of alarms and every slice of strings impl.Keys answers as spec.Keys, leaves them as they were, keeps nothing of them, and its answer lies in memory of its own, so the law laws.FnExactKeys returns true, whatever its arguments. No condition.
-/
import Derived.Test.YtmachabgnbpeaaaRows
import Derived.WalkKit
import Derived.ProofKit
import Derived.OpenShut
import Derived.ShutString
import Derived.ChangeOld
import Derived.Below
import Derived.WalkLawsBesides
import Derived.WalkSpells
import Derived.Test.YtmachabgnbpeaaaKysK
import Derived.Test.YtmachabgnbpeaaaStrT
namespace Go.Proofs.Ytmachabgnbpeaaa.FnExactKeys
open Go.ChangeShapes Go.WideShapes Go.ChangeAt Go.RowKit
open Go.ChangeMaps (open_string shut_string)
set_option linter.unusedVariables false

open Go.Proofs.Ytmachabgnbpeaaa.Labs Go.Proofs.Ytmachabgnbpeaaa.Over Go.Proofs.Ytmachabgnbpeaaa.Blk Go.Proofs.Ytmachabgnbpeaaa.Pro Go.Proofs.Ytmachabgnbpeaaa.Kys Go.Proofs.Ytmachabgnbpeaaa.Alms
open Go.Proofs.Ytmachabgnbpeaaa.StrT (FitsS heldS_reads HeldS)
open Go.Proofs.Ytmachabgnbpeaaa.Mark (Apart)
set_option maxRecDepth 100000 in
set_option maxHeartbeats 8000000 in
theorem walk (a0 : Option Addr) (cap0 : Nat) (l0 : List PAl) (a1 : Option Addr) (cap1 : Nat) (l1 : List ByteArray) (w : World) (r0 : RdA w a0 l0) (m0 : l0.length ≤ maxLen) (f0 : FitsP l0) (r1 : RdS w a1 l1) (m1 : l1.length ≤ maxLen) (f1 : FitsS l1) :
    Calls Try.prog 8 #[.slice a0 l0.length cap0, .slice a1 l1.length cap1] w fun e w' => e = .returned (.bool true) ∧ Below w.heap.size w w' := by
  have R0 : Hid (RdA w a0 l0) := r0
  have M0 : Hid (l0.length ≤ maxLen) := m0
  have F0 : Hid (FitsP l0) := f0
  clear r0 m0 f0
  have R1 : Hid (RdS w a1 l1) := r1
  have M1 : Hid (l1.length ≤ maxLen) := m1
  have F1 : Hid (FitsS l1) := f1
  clear r1 m1 f1
  have B0 : Hid (Below w.heap.size w w) := Below.refl _ _
  go_enter Try.func8, Try.ntmps8
  go_wp2_with fail
  refine (Go.Proofs.Ytmachabgnbpeaaa.Alms.sz_any a0 cap0 l0 1048576 _ R0.out M0.out F0.out (by omega) (by omega)).mono ?_
  rintro e w1 ⟨⟨k0, rfl, p0, hn⟩, hb⟩
  have B1 : Hid (Below w.heap.size w w1) := grow_on B0.out hb
  have Z1 : Hid (w.heap.size ≤ w1.heap.size) := hb.size
  clear hb
  by_cases g0 : k0 < 0
  · clear hn
    go_wp2
    go_ret
    exact ⟨rfl, B1.out⟩
  have K0 : Hid (l0.length ≤ 1048576 ∧ sumL l0 ≤ 1048576) := by have := hn (by omega); exact ⟨by omega, by omega⟩
  clear hn
  go_wp2_with fail
  refine (Go.Proofs.Ytmachabgnbpeaaa.StrT.sz_any a1 cap1 l1 k0 _ (R1.out.below B1.out) M1.out F1.out (by omega) (by omega)).mono ?_
  rintro e w2 ⟨⟨k1, rfl, p1, hn⟩, hb⟩
  have B2 : Hid (Below w.heap.size w w2) := grow_on B1.out hb
  have Z2 : Hid (w1.heap.size ≤ w2.heap.size) := hb.size
  clear hb
  by_cases g1 : k1 < 0
  · clear hn
    go_wp2
    go_ret
    exact ⟨rfl, B2.out⟩
  have K1 : Hid (l1.length ≤ 1048576) := by have := hn (by omega); show l1.length ≤ 1048576; omega
  clear hn
  go_wp2_with fail
  refine (Go.Proofs.Ytmachabgnbpeaaa.Alms.to_any a0 cap0 l0 _ (R0.out.below B2.out) K0.out.1 K0.out.2).mono ?_
  rintro e w3 ⟨rfl, ⟨Scs, Sg, hC⟩, hb⟩
  have S_3 : Hid (CopyA w2.heap.size w3 l0 l0.length Scs Sg) := hC
  have U_S : Hid (w2.heap.size < w3.heap.size) := hC.blk.lt
  have Shi : Hid (w2.heap.size < w3.heap.size ∧ ∀ i, i < l0.length → Sg i < w3.heap.size) := ⟨hC.blk.lt, fun i hi => by obtain ⟨_, ds, h1, _⟩ := hC.own i hi; exact h1.lt⟩
  clear hC
  have B3 : Hid (Below w.heap.size w w3) := grow_on B2.out hb
  have Z3 : Hid (w2.heap.size ≤ w3.heap.size) := hb.size
  clear hb
  go_wp2_with fail
  refine (Go.Proofs.Ytmachabgnbpeaaa.StrT.to_any a1 cap1 l1 _ (R1.out.below B3.out) K1.out).mono ?_
  rintro e w4 ⟨rfl, ⟨Tcs, hk, hs, hh⟩, hb⟩
  have Tk_4 : Hid (Blk w4 w3.heap.size Tcs 9) := hk
  have Ts : Hid (Tcs.size = l1.length) := hs
  have Th : Hid (HeldS Tcs l1) := hh
  have U_Tk : Hid (w3.heap.size < w4.heap.size) := hk.lt
  clear hk hs hh
  have B4 : Hid (Below w.heap.size w w4) := grow_on B3.out hb
  have Z4 : Hid (w3.heap.size ≤ w4.heap.size) := hb.size
  have S_4 : Hid (CopyA w2.heap.size w4 l0 l0.length Scs Sg) := S_3.out.grow hb
  clear hb
  go_wp2_with fail
  refine (specKeys_any _ _ _ _ l0 l1 _ S_4.out.reads (heldS_reads Tk_4.out Th.out) K0.out.1 K0.out.2 M1.out).mono ?_
  rintro e w5 ⟨v, rfl, Wr, hS, hE⟩
  obtain ⟨Wg, Wc, rfl⟩ := hS.lies
  have hb := hS.low
  have W_5 : Hid (InK w4.heap.size w5.heap.size w5 Wg Wr) := hS.inK
  have WE : Hid (labs Wr = keysB l0 l1) := hE
  have WL : Hid (Wr.length ≤ 1048576 ∧ sumK Wr ≤ 1048576) := ⟨Nat.le_trans (rows_len hE) K0.out.1, Nat.le_trans (rows_sum hE) K0.out.2⟩
  clear hS hE
  have B5 : Hid (Below w.heap.size w w5) := grow_on B4.out hb
  have Z5 : Hid (w4.heap.size ≤ w5.heap.size) := hb.size
  have S_5 : Hid (CopyA w2.heap.size w5 l0 l0.length Scs Sg) := S_4.out.grow hb
  have Tk_5 : Hid (Blk w5 w3.heap.size Tcs 9) := Tk_4.out.grow hb
  clear hb
  go_wp2_with fail
  refine (Go.Proofs.Ytmachabgnbpeaaa.Alms.to_any a0 cap0 l0 _ (R0.out.below B5.out) K0.out.1 K0.out.2).mono ?_
  rintro e w6 ⟨rfl, ⟨Xcs, Xg, hC⟩, hb⟩
  have X_6 : Hid (CopyA w5.heap.size w6 l0 l0.length Xcs Xg) := hC
  have U_X : Hid (w5.heap.size < w6.heap.size) := hC.blk.lt
  have Xhi : Hid (w5.heap.size < w6.heap.size ∧ ∀ i, i < l0.length → Xg i < w6.heap.size) := ⟨hC.blk.lt, fun i hi => by obtain ⟨_, ds, h1, _⟩ := hC.own i hi; exact h1.lt⟩
  clear hC
  have B6 : Hid (Below w.heap.size w w6) := grow_on B5.out hb
  have Z6 : Hid (w5.heap.size ≤ w6.heap.size) := hb.size
  have W_6 : Hid (InK w4.heap.size w5.heap.size w6 Wg Wr) := W_5.out.grow hb
  clear hb
  go_wp2_with fail
  refine (Go.Proofs.Ytmachabgnbpeaaa.StrT.to_any a1 cap1 l1 _ (R1.out.below B6.out) K1.out).mono ?_
  rintro e w7 ⟨rfl, ⟨Ycs, hk, hs, hh⟩, hb⟩
  have Yk_7 : Hid (Blk w7 w6.heap.size Ycs 9) := hk
  have Ys : Hid (Ycs.size = l1.length) := hs
  have Yh : Hid (HeldS Ycs l1) := hh
  have U_Yk : Hid (w6.heap.size < w7.heap.size) := hk.lt
  clear hk hs hh
  have B7 : Hid (Below w.heap.size w w7) := grow_on B6.out hb
  have Z7 : Hid (w6.heap.size ≤ w7.heap.size) := hb.size
  have W_7 : Hid (InK w4.heap.size w5.heap.size w7 Wg Wr) := W_6.out.grow hb
  have X_7 : Hid (CopyA w5.heap.size w7 l0 l0.length Xcs Xg) := X_6.out.grow hb
  clear hb
  go_wp2_with fail
  refine (implKeys_any _ _ _ _ l0 l1 _ X_7.out.reads (heldS_reads Yk_7.out Yh.out) K0.out.1 K0.out.2 M1.out).mono ?_
  rintro e w8 ⟨v, rfl, Gr, hS, hE⟩
  obtain ⟨Gg, Gc, rfl⟩ := hS.lies
  have hb := hS.low
  have G_8 : Hid (InK w7.heap.size w8.heap.size w8 Gg Gr) := hS.inK
  have GE : Hid (labs Gr = keysB l0 l1) := hE
  have GL : Hid (Gr.length ≤ 1048576 ∧ sumK Gr ≤ 1048576) := ⟨Nat.le_trans (rows_len hE) K0.out.1, Nat.le_trans (rows_sum hE) K0.out.2⟩
  clear hS hE
  have B8 : Hid (Below w.heap.size w w8) := grow_on B7.out hb
  have Z8 : Hid (w7.heap.size ≤ w8.heap.size) := hb.size
  have W_8 : Hid (InK w4.heap.size w5.heap.size w8 Wg Wr) := W_7.out.grow hb
  have X_8 : Hid (CopyA w5.heap.size w8 l0 l0.length Xcs Xg) := X_7.out.grow hb
  have Yk_8 : Hid (Blk w8 w6.heap.size Ycs 9) := Yk_7.out.grow hb
  clear hb
  go_wp2_with fail
  refine (eqSS_any _ _ _ _ Gr Wr _ G_8.out.rd W_8.out.rd (GE.out.trans WE.out.symm) (len_max GL.out.1)).mono ?_
  rintro e w9 ⟨rfl, hb⟩
  have B9 : Hid (Below w.heap.size w w9) := grow_on B8.out hb
  have Z9 : Hid (w8.heap.size ≤ w9.heap.size) := hb.size
  have W_9 : Hid (InK w4.heap.size w5.heap.size w9 Wg Wr) := W_8.out.grow hb
  have X_9 : Hid (CopyA w5.heap.size w9 l0 l0.length Xcs Xg) := X_8.out.grow hb
  have Yk_9 : Hid (Blk w9 w6.heap.size Ycs 9) := Yk_8.out.grow hb
  have G_9 : Hid (InK w7.heap.size w8.heap.size w9 Gg Gr) := G_8.out.grow hb
  clear hb
  go_wp2_with fail
  refine (Go.Proofs.Ytmachabgnbpeaaa.Alms.to_any a0 cap0 l0 _ (R0.out.below B9.out) K0.out.1 K0.out.2).mono ?_
  rintro e w10 ⟨rfl, ⟨Zcs, Zg, hC⟩, hb⟩
  have Z_10 : Hid (CopyA w9.heap.size w10 l0 l0.length Zcs Zg) := hC
  have U_Z : Hid (w9.heap.size < w10.heap.size) := hC.blk.lt
  have Zhi : Hid (w9.heap.size < w10.heap.size ∧ ∀ i, i < l0.length → Zg i < w10.heap.size) := ⟨hC.blk.lt, fun i hi => by obtain ⟨_, ds, h1, _⟩ := hC.own i hi; exact h1.lt⟩
  clear hC
  have B10 : Hid (Below w.heap.size w w10) := grow_on B9.out hb
  have Z10 : Hid (w9.heap.size ≤ w10.heap.size) := hb.size
  have W_10 : Hid (InK w4.heap.size w5.heap.size w10 Wg Wr) := W_9.out.grow hb
  have X_10 : Hid (CopyA w5.heap.size w10 l0 l0.length Xcs Xg) := X_9.out.grow hb
  have Yk_10 : Hid (Blk w10 w6.heap.size Ycs 9) := Yk_9.out.grow hb
  have G_10 : Hid (InK w7.heap.size w8.heap.size w10 Gg Gr) := G_9.out.grow hb
  clear hb
  go_wp2_with fail
  refine (Go.Proofs.Ytmachabgnbpeaaa.Alms.eq_any _ _ _ _ l0 _ X_10.out.reads Z_10.out.reads M0.out F0.out).mono ?_
  rintro e w11 ⟨rfl, hb⟩
  have B11 : Hid (Below w.heap.size w w11) := grow_on B10.out hb
  have Z11 : Hid (w10.heap.size ≤ w11.heap.size) := hb.size
  have W_11 : Hid (InK w4.heap.size w5.heap.size w11 Wg Wr) := W_10.out.grow hb
  have X_11 : Hid (CopyA w5.heap.size w11 l0 l0.length Xcs Xg) := X_10.out.grow hb
  have Yk_11 : Hid (Blk w11 w6.heap.size Ycs 9) := Yk_10.out.grow hb
  have G_11 : Hid (InK w7.heap.size w8.heap.size w11 Gg Gr) := G_10.out.grow hb
  have Z_11 : Hid (CopyA w9.heap.size w11 l0 l0.length Zcs Zg) := Z_10.out.grow hb
  clear hb
  go_wp2_with fail
  refine (Go.Proofs.Ytmachabgnbpeaaa.StrT.to_any a1 cap1 l1 _ (R1.out.below B11.out) K1.out).mono ?_
  rintro e w12 ⟨rfl, ⟨Z1cs, hk, hs, hh⟩, hb⟩
  have Z1k_12 : Hid (Blk w12 w11.heap.size Z1cs 9) := hk
  have Z1s : Hid (Z1cs.size = l1.length) := hs
  have Z1h : Hid (HeldS Z1cs l1) := hh
  have U_Z1k : Hid (w11.heap.size < w12.heap.size) := hk.lt
  clear hk hs hh
  have B12 : Hid (Below w.heap.size w w12) := grow_on B11.out hb
  have Z12 : Hid (w11.heap.size ≤ w12.heap.size) := hb.size
  have W_12 : Hid (InK w4.heap.size w5.heap.size w12 Wg Wr) := W_11.out.grow hb
  have X_12 : Hid (CopyA w5.heap.size w12 l0 l0.length Xcs Xg) := X_11.out.grow hb
  have Yk_12 : Hid (Blk w12 w6.heap.size Ycs 9) := Yk_11.out.grow hb
  have G_12 : Hid (InK w7.heap.size w8.heap.size w12 Gg Gr) := G_11.out.grow hb
  clear hb
  go_wp2_with fail
  refine (Go.Proofs.Ytmachabgnbpeaaa.StrT.eq_any _ _ _ _ l1 _ (heldS_reads Yk_12.out Yh.out) (heldS_reads Z1k_12.out Z1h.out) M1.out).mono ?_
  rintro e w13 ⟨rfl, hb⟩
  have B13 : Hid (Below w.heap.size w w13) := grow_on B12.out hb
  have Z13 : Hid (w12.heap.size ≤ w13.heap.size) := hb.size
  have W_13 : Hid (InK w4.heap.size w5.heap.size w13 Wg Wr) := W_12.out.grow hb
  have X_13 : Hid (CopyA w5.heap.size w13 l0 l0.length Xcs Xg) := X_12.out.grow hb
  have Yk_13 : Hid (Blk w13 w6.heap.size Ycs 9) := Yk_12.out.grow hb
  have G_13 : Hid (InK w7.heap.size w8.heap.size w13 Gg Gr) := G_12.out.grow hb
  have Z1k_13 : Hid (Blk w13 w11.heap.size Z1cs 9) := Z1k_12.out.grow hb
  clear hb
  have hX : Hid (KeepA w5.heap.size w13 l0 Xcs Xg) := X_13.out.keep
  go_wp2_with fail
  refine (Go.Proofs.Ytmachabgnbpeaaa.Alms.mark_any w5.heap.size l0.length 1 w6.heap.size l0 Xcs Xg _ hX.out Xhi.out.1 Xhi.out.2 K0.out.1 K0.out.2 (by omega) (by omega)).mono ?_
  rintro e w14 ⟨⟨z, rfl, hz1, hz2⟩, ha⟩
  have B14 : Hid (Below w.heap.size w w14) := B13.out.trans (ha.low (by have h0 := B5.out.size; have h0 := Z1.out; have h1 := Z2.out; have h2 := Z3.out; have h3 := Z4.out; have h4 := Z5.out; have h5 := Z6.out; have h6 := Z7.out; have h7 := Z8.out; have h8 := Z9.out; have h9 := Z10.out; have h10 := Z11.out; have h11 := Z12.out; have h12 := Z13.out; have h13 := U_S.out; have h14 := U_Tk.out; have h15 := U_X.out; have h16 := U_Yk.out; have h17 := U_Z.out; have h18 := U_Z1k.out; omega) B13.out.size)
  have Z14 : Hid (w13.heap.size ≤ w14.heap.size) := ha.size
  have W_14 : Hid (InK w4.heap.size w5.heap.size w14 Wg Wr) := W_13.out.aside ha (by have h0 := Z1.out; have h1 := Z2.out; have h2 := Z3.out; have h3 := Z4.out; have h4 := Z5.out; have h5 := Z6.out; have h6 := Z7.out; have h7 := Z8.out; have h8 := Z9.out; have h9 := Z10.out; have h10 := Z11.out; have h11 := Z12.out; have h12 := Z13.out; have h13 := Z14.out; have h14 := U_S.out; have h15 := U_Tk.out; have h16 := U_X.out; have h17 := U_Yk.out; have h18 := U_Z.out; have h19 := U_Z1k.out; omega)
  have Yk_14 : Hid (Blk w14 w6.heap.size Ycs 9) := ha.blk Yk_13.out (by have h0 := Z1.out; have h1 := Z2.out; have h2 := Z3.out; have h3 := Z4.out; have h4 := Z5.out; have h5 := Z6.out; have h6 := Z7.out; have h7 := Z8.out; have h8 := Z9.out; have h9 := Z10.out; have h10 := Z11.out; have h11 := Z12.out; have h12 := Z13.out; have h13 := Z14.out; have h14 := U_S.out; have h15 := U_Tk.out; have h16 := U_X.out; have h17 := U_Yk.out; have h18 := U_Z.out; have h19 := U_Z1k.out; omega)
  have G_14 : Hid (InK w7.heap.size w8.heap.size w14 Gg Gr) := G_13.out.aside ha (by have h0 := Z1.out; have h1 := Z2.out; have h2 := Z3.out; have h3 := Z4.out; have h4 := Z5.out; have h5 := Z6.out; have h6 := Z7.out; have h7 := Z8.out; have h8 := Z9.out; have h9 := Z10.out; have h10 := Z11.out; have h11 := Z12.out; have h12 := Z13.out; have h13 := Z14.out; have h14 := U_S.out; have h15 := U_Tk.out; have h16 := U_X.out; have h17 := U_Yk.out; have h18 := U_Z.out; have h19 := U_Z1k.out; omega)
  clear ha
  go_wp2_with fail
  refine ((Go.Proofs.Ytmachabgnbpeaaa.StrT.mark_any w6.heap.size l1.length l1.length z Ycs _ Yk_14.out (by rw [Ys.out]; exact Nat.le_refl _) K1.out hz1 hz2).mono (fun e w' h => (⟨h.1, Aside.apart h.2 (Nat.le_refl _) (Nat.lt_succ_self _)⟩ : e = .returned (.int .i64 ((z + l1.length : Nat) : Int)) ∧ Aside w6.heap.size (w6.heap.size + 1) _ w'))).mono ?_
  rintro e w15 ⟨rfl, ha⟩
  have B15 : Hid (Below w.heap.size w w15) := B14.out.trans (ha.low (by have h0 := B6.out.size; have h0 := Z1.out; have h1 := Z2.out; have h2 := Z3.out; have h3 := Z4.out; have h4 := Z5.out; have h5 := Z6.out; have h6 := Z7.out; have h7 := Z8.out; have h8 := Z9.out; have h9 := Z10.out; have h10 := Z11.out; have h11 := Z12.out; have h12 := Z13.out; have h13 := Z14.out; have h14 := U_S.out; have h15 := U_Tk.out; have h16 := U_X.out; have h17 := U_Yk.out; have h18 := U_Z.out; have h19 := U_Z1k.out; omega) B14.out.size)
  have Z15 : Hid (w14.heap.size ≤ w15.heap.size) := ha.size
  have W_15 : Hid (InK w4.heap.size w5.heap.size w15 Wg Wr) := W_14.out.aside ha (by have h0 := Z1.out; have h1 := Z2.out; have h2 := Z3.out; have h3 := Z4.out; have h4 := Z5.out; have h5 := Z6.out; have h6 := Z7.out; have h7 := Z8.out; have h8 := Z9.out; have h9 := Z10.out; have h10 := Z11.out; have h11 := Z12.out; have h12 := Z13.out; have h13 := Z14.out; have h14 := Z15.out; have h15 := U_S.out; have h16 := U_Tk.out; have h17 := U_X.out; have h18 := U_Yk.out; have h19 := U_Z.out; have h20 := U_Z1k.out; omega)
  have G_15 : Hid (InK w7.heap.size w8.heap.size w15 Gg Gr) := G_14.out.aside ha (by have h0 := Z1.out; have h1 := Z2.out; have h2 := Z3.out; have h3 := Z4.out; have h4 := Z5.out; have h5 := Z6.out; have h6 := Z7.out; have h7 := Z8.out; have h8 := Z9.out; have h9 := Z10.out; have h10 := Z11.out; have h11 := Z12.out; have h12 := Z13.out; have h13 := Z14.out; have h14 := Z15.out; have h15 := U_S.out; have h16 := U_Tk.out; have h17 := U_X.out; have h18 := U_Yk.out; have h19 := U_Z.out; have h20 := U_Z1k.out; omega)
  clear ha
  have hq : ¬ ((z + l1.length : Nat) : Int) < 0 := by omega
  generalize z + l1.length = m2 at hq ⊢
  go_wp2_with fail
  refine (eqSS_any _ _ _ _ Gr Wr _ G_15.out.rd W_15.out.rd (GE.out.trans WE.out.symm) (len_max GL.out.1)).mono ?_
  rintro e w16 ⟨rfl, hb⟩
  have B16 : Hid (Below w.heap.size w w16) := grow_on B15.out hb
  have Z16 : Hid (w15.heap.size ≤ w16.heap.size) := hb.size
  have W_16 : Hid (InK w4.heap.size w5.heap.size w16 Wg Wr) := W_15.out.grow hb
  have G_16 : Hid (InK w7.heap.size w8.heap.size w16 Gg Gr) := G_15.out.grow hb
  clear hb
  clear hq
  have GI : Hid (∀ i, i < Gr.length → (nthR Gr i).2.2.length ≤ 1048576) := fun i hi => (G_16.out.keys _ (nthR_mem hi)).1.2.1
  go_wp2_with fail
  refine (markSS_any Gg Gc 1 w7.heap.size w8.heap.size Gr _ G_16.out GL.out.1 GL.out.2 (by omega) (by omega)).mono ?_
  rintro e w17 ⟨rfl, hm, ha⟩
  have B17 : Hid (Below w.heap.size w w17) := B16.out.trans (ha.low (by have h0 := B7.out.size; have h0 := Z1.out; have h1 := Z2.out; have h2 := Z3.out; have h3 := Z4.out; have h4 := Z5.out; have h5 := Z6.out; have h6 := Z7.out; have h7 := Z8.out; have h8 := Z9.out; have h9 := Z10.out; have h10 := Z11.out; have h11 := Z12.out; have h12 := Z13.out; have h13 := Z14.out; have h14 := Z15.out; have h15 := Z16.out; have h16 := U_S.out; have h17 := U_Tk.out; have h18 := U_X.out; have h19 := U_Yk.out; have h20 := U_Z.out; have h21 := U_Z1k.out; omega) B16.out.size)
  have Z17 : Hid (w16.heap.size ≤ w17.heap.size) := ha.size
  have W_17 : Hid (InK w4.heap.size w5.heap.size w17 Wg Wr) := W_16.out.aside ha (by have h0 := Z1.out; have h1 := Z2.out; have h2 := Z3.out; have h3 := Z4.out; have h4 := Z5.out; have h5 := Z6.out; have h6 := Z7.out; have h7 := Z8.out; have h8 := Z9.out; have h9 := Z10.out; have h10 := Z11.out; have h11 := Z12.out; have h12 := Z13.out; have h13 := Z14.out; have h14 := Z15.out; have h15 := Z16.out; have h16 := Z17.out; have h17 := U_S.out; have h18 := U_Tk.out; have h19 := U_X.out; have h20 := U_Yk.out; have h21 := U_Z.out; have h22 := U_Z1k.out; omega)
  have H_17 : Hid (MSt w17 Gg Gr 1 Gr.length) := hm
  clear hm
  clear ha
  have hq : ¬ ((1 + 2 * sumK Gr : Nat) : Int) < 0 := by omega
  go_wp2_with fail
  refine (heldSS_any Gg Gc 1 Gr _ H_17.out GI.out GL.out.1 GL.out.2 (by omega) (by omega)).mono ?_
  rintro e w18 ⟨rfl, hb⟩
  have B18 : Hid (Below w.heap.size w w18) := grow_on B17.out hb
  have Z18 : Hid (w17.heap.size ≤ w18.heap.size) := hb.size
  have W_18 : Hid (InK w4.heap.size w5.heap.size w18 Wg Wr) := W_17.out.grow hb
  have H_18 : Hid (MSt w18 Gg Gr 1 Gr.length) := H_17.out.grow hb
  clear hb
  go_wp2_with fail
  refine (Go.Proofs.Ytmachabgnbpeaaa.Alms.to_any a0 cap0 l0 _ (R0.out.below B18.out) K0.out.1 K0.out.2).mono ?_
  rintro e w19 ⟨rfl, ⟨Ccs, Cg, hC⟩, hb⟩
  have C_19 : Hid (CopyA w18.heap.size w19 l0 l0.length Ccs Cg) := hC
  have U_C : Hid (w18.heap.size < w19.heap.size) := hC.blk.lt
  have Chi : Hid (w18.heap.size < w19.heap.size ∧ ∀ i, i < l0.length → Cg i < w19.heap.size) := ⟨hC.blk.lt, fun i hi => by obtain ⟨_, ds, h1, _⟩ := hC.own i hi; exact h1.lt⟩
  clear hC
  have B19 : Hid (Below w.heap.size w w19) := grow_on B18.out hb
  have Z19 : Hid (w18.heap.size ≤ w19.heap.size) := hb.size
  have W_19 : Hid (InK w4.heap.size w5.heap.size w19 Wg Wr) := W_18.out.grow hb
  have H_19 : Hid (MSt w19 Gg Gr 1 Gr.length) := H_18.out.grow hb
  clear hb
  go_wp2_with fail
  refine (Go.Proofs.Ytmachabgnbpeaaa.StrT.to_any a1 cap1 l1 _ (R1.out.below B19.out) K1.out).mono ?_
  rintro e w20 ⟨rfl, ⟨Dcs, hk, hs, hh⟩, hb⟩
  have Dk_20 : Hid (Blk w20 w19.heap.size Dcs 9) := hk
  have Ds : Hid (Dcs.size = l1.length) := hs
  have Dh : Hid (HeldS Dcs l1) := hh
  have U_Dk : Hid (w19.heap.size < w20.heap.size) := hk.lt
  clear hk hs hh
  have B20 : Hid (Below w.heap.size w w20) := grow_on B19.out hb
  have Z20 : Hid (w19.heap.size ≤ w20.heap.size) := hb.size
  have W_20 : Hid (InK w4.heap.size w5.heap.size w20 Wg Wr) := W_19.out.grow hb
  have H_20 : Hid (MSt w20 Gg Gr 1 Gr.length) := H_19.out.grow hb
  have C_20 : Hid (CopyA w18.heap.size w20 l0 l0.length Ccs Cg) := C_19.out.grow hb
  clear hb
  go_wp2_with fail
  refine (implKeys_any _ _ _ _ l0 l1 _ C_20.out.reads (heldS_reads Dk_20.out Dh.out) K0.out.1 K0.out.2 M1.out).mono ?_
  rintro e w21 ⟨v, rfl, Vr, hS, hE⟩
  obtain ⟨Vg, Vc, rfl⟩ := hS.lies
  have hb := hS.low
  have V_21 : Hid (InK w20.heap.size w21.heap.size w21 Vg Vr) := hS.inK
  have VE : Hid (labs Vr = keysB l0 l1) := hE
  have VL : Hid (Vr.length ≤ 1048576 ∧ sumK Vr ≤ 1048576) := ⟨Nat.le_trans (rows_len hE) K0.out.1, Nat.le_trans (rows_sum hE) K0.out.2⟩
  clear hS hE
  have B21 : Hid (Below w.heap.size w w21) := grow_on B20.out hb
  have Z21 : Hid (w20.heap.size ≤ w21.heap.size) := hb.size
  have W_21 : Hid (InK w4.heap.size w5.heap.size w21 Wg Wr) := W_20.out.grow hb
  have H_21 : Hid (MSt w21 Gg Gr 1 Gr.length) := H_20.out.grow hb
  have C_21 : Hid (CopyA w18.heap.size w21 l0 l0.length Ccs Cg) := C_20.out.grow hb
  have Dk_21 : Hid (Blk w21 w19.heap.size Dcs 9) := Dk_20.out.grow hb
  clear hb
  go_wp2_with fail
  refine (eqSS_any _ _ _ _ Vr Wr _ V_21.out.rd W_21.out.rd (VE.out.trans WE.out.symm) (len_max VL.out.1)).mono ?_
  rintro e w22 ⟨rfl, hb⟩
  have B22 : Hid (Below w.heap.size w w22) := grow_on B21.out hb
  have Z22 : Hid (w21.heap.size ≤ w22.heap.size) := hb.size
  have W_22 : Hid (InK w4.heap.size w5.heap.size w22 Wg Wr) := W_21.out.grow hb
  have H_22 : Hid (MSt w22 Gg Gr 1 Gr.length) := H_21.out.grow hb
  have V_22 : Hid (InK w20.heap.size w21.heap.size w22 Vg Vr) := V_21.out.grow hb
  clear hb
  have hq : ¬ ((1 + 2 * sumK Gr : Nat) : Int) < 0 := by omega
  go_wp2_with fail
  refine (heldSS_any Gg Gc 1 Gr _ H_22.out GI.out GL.out.1 GL.out.2 (by omega) (by omega)).mono ?_
  rintro e w23 ⟨rfl, hb⟩
  have B23 : Hid (Below w.heap.size w w23) := grow_on B22.out hb
  have Z23 : Hid (w22.heap.size ≤ w23.heap.size) := hb.size
  have W_23 : Hid (InK w4.heap.size w5.heap.size w23 Wg Wr) := W_22.out.grow hb
  have H_23 : Hid (MSt w23 Gg Gr 1 Gr.length) := H_22.out.grow hb
  have V_23 : Hid (InK w20.heap.size w21.heap.size w23 Vg Vr) := V_22.out.grow hb
  clear hb
  go_wp2
  go_ret
  exact ⟨rfl, B23.out⟩
theorem own : ownKnob Try.prog.godebug = none := by kernel_rfl
theorem laidOut : laidOutB Try.prog = true := by kernel_rfl
set_option maxRecDepth 100000 in
theorem lifted (os : Os) (started : os.Started) (H : Type) (enc : TypeId × Value → H) :
    ReturnsInHanded {} Try.checked os 8 .any (Rows.fnExactKeysSpec.pre6 enc Try.prog Try.f8 Rows.fnExactKeysRow.domain false) (Rows.fnExactKeysSpec.post enc Try.prog Try.f8 false true false false) := by
  refine returnsInHanded_of_change (C := Try.checked) own started (by kernel_rfl) Try.func8
    (ChangeSpec.witness6 (enc := enc) (C := Try.checked) false ⟨#[], #[.slice none 0 0, .slice none 0 0], []⟩ 8 (by kernel_rfl) (by kernel_rfl) (by kernel_rfl) (by kernel_rfl)) ?_
  intro W base args ds gs before hval0 hW hcnd _
  have hval : ∀ (j : Nat) t v, Try.f8.params[j]? = some t → args[j]? = some v → Value.okWide Try.prog W .any base t v := hval0
  have hW' := hW
  obtain ⟨p, q, hA0, hV, rfl, hfz, hnd⟩ := hW
  have hA : DataW.TrodAll enc Try.prog W 0 (fun _ => true) true Try.f8.params.toList args.toList ds p := hA0
  rw [Try.params8] at hA hval
  obtain ⟨v0, vs0, d0, ds0, p0, q0, hargs, rfl, rfl, h0, r0⟩ := trodAll_cons hA
  obtain ⟨v1, vs1, d1, ds1, p1, q1, rfl, rfl, rfl, h1, r1⟩ := trodAll_cons r0
  obtain ⟨rfl, rfl, rfl⟩ := trodAll_nil r1
  obtain rfl : args = #[v0, v1] := by cases args; simp_all
  obtain ⟨rfl, rfl⟩ := trodVars_none hV
  obtain ⟨a0, len0, cap0, rfl⟩ := okWide_slice Try.underlying61 (hval 0 61 v0 rfl rfl)
  have k0 := h0
  have lt0 : ∀ x ∈ p0, x.block < W.heap.size := by obtain ⟨m, hm⟩ := k0; exact DataW.trod_lt m _ _ _ hm
  obtain ⟨l0, rfl, w0, m0, f0⟩ := Go.Proofs.Ytmachabgnbpeaaa.Alms.open_alarms h0
  obtain ⟨a1, len1, cap1, rfl⟩ := okWide_slice Try.underlying25 (hval 1 25 v1 rfl rfl)
  have k1 := h1
  have lt1 : ∀ x ∈ p1, x.block < W.heap.size := by obtain ⟨m, hm⟩ := k1; exact DataW.trod_lt m _ _ _ hm
  obtain ⟨l1, rfl, w1, m1, f1⟩ := Go.Proofs.Ytmachabgnbpeaaa.StrT.open_strs h1
  clear hA0 hval0
  refine (walk a0 cap0 l0 a1 cap1 l1 W w0 m0 f0 w1 m1 f1).mono fun e W' ⟨he, bel⟩ => ?_
  subst he
  exact ⟨_, rfl, _, _, _, [], _, [], hW', trodAll_mk1 (shut_bool Try.underlying4 _), (trodAll_cons_mk (Below.trod laidOut (by kernel_rfl) (of_decide_eq_true (by kernel_rfl)) k0 bel lt0) (trodAll_cons_mk (Below.trod laidOut (by kernel_rfl) (of_decide_eq_true (by kernel_rfl)) k1 bel lt1) trodAll_mk0)), rfl, bel.frame _, fun h => by cases h⟩

theorem over : Rows.fnExactKeysRow.holds Try.pinned (OpenSpec.ofChange Rows.fnExactKeysSpec) :=
  OpenClaim.holds_of_wide 8 Try.f8 rfl rfl rfl rfl rfl rfl rfl ⟨rfl, rfl, rfl, rfl, rfl⟩ rfl rfl rfl rfl rfl (by kernel_rfl) Try.func8 (by kernel_rfl)
    (of_decide_eq_true (by kernel_rfl)) (by unfold Func.isWrapper; first | (rw [if_pos (by decide +kernel)]; kernel_rfl) | (rw [if_neg (by decide +kernel)]; exact ⟨rfl, rfl⟩))
    (fun os started H enc _ => lifted os started H enc)

end Go.Proofs.Ytmachabgnbpeaaa.FnExactKeys
namespace Go.Proofs.Ytmachabgnbpeaaa
theorem fnExactKeys_holds : Rows.FnExactKeysSaid := FnExactKeys.over
#print axioms fnExactKeys_holds
end Go.Proofs.Ytmachabgnbpeaaa
