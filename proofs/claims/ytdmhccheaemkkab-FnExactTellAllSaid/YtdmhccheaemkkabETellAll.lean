/-
  PROVED: at every slice of listeners and every alarm impl.TellAll answers as spec.TellAll, leaves them as they were, keeps nothing of them, and its answer lies in memory of its own, so the law laws.FnExactTellAll returns true, whatever its arguments. No condition.
-/
import Derived.Test.YtdmhccheaemkkabRows
import Derived.WalkKit
import Derived.ProofKit
import Derived.OpenShut
import Derived.ShutString
import Derived.ChangeOld
import Derived.Below
import Derived.WalkLawsBesides
import Derived.WalkSpells
import Derived.Test.YtdmhccheaemkkabSubM
import Derived.Test.YtdmhccheaemkkabTelA
import Derived.Deep.RegionHeld3
namespace Go.Proofs.Ytdmhccheaemkkab.FnExactTellAll
open Go.ChangeShapes Go.WideShapes Go.ChangeAt Go.RowKit
open Go.ChangeMaps (open_string shut_string)
set_option linter.unusedVariables false

open Go.Proofs.Ytdmhccheaemkkab.Labs Go.Proofs.Ytdmhccheaemkkab.LabS Go.Proofs.Ytdmhccheaemkkab.Over Go.Proofs.Ytdmhccheaemkkab.Blk Go.Proofs.Ytdmhccheaemkkab.Alms Go.Proofs.Ytdmhccheaemkkab.Rws Go.Proofs.Ytdmhccheaemkkab.ChnC Go.Proofs.Ytdmhccheaemkkab.ChnK
open Go.Proofs.Ytdmhccheaemkkab.Chs Go.Proofs.Ytdmhccheaemkkab.Que Go.Proofs.Ytdmhccheaemkkab.Her Go.Proofs.Ytdmhccheaemkkab.Subs Go.Proofs.Ytdmhccheaemkkab.SubM Go.Proofs.Ytdmhccheaemkkab.TelA
open Go.Proofs.Ytdmhccheaemkkab.Alm (AlIn)
open Go.Proofs.Ytdmhccheaemkkab.Mark (Apart Marked)
open Go.Proofs.Ytdmhccheaemkkab.LabT (held_reads)
theorem sbs_of {us : List URow} {U : List PSb} (h : sbs us = U) : us.length = U.length := by rw [← sbs_len, h]
theorem eqL_any (M M' c c' lo lo' d d' : Nat) (us us' : List URow) (U : List PSb) (w : World) (h : UB lo w M d us) (h' : UB lo' w M' d' us') (hp : sbs us = U) (hp' : sbs us' = U) (hl : U.length ≤ maxLen) (hz : FitsU U) :
    Calls Try.prog 11 #[.slice (some ⟨M, 0, none⟩) us.length c, .slice (some ⟨M', 0, none⟩) us'.length c'] w fun e w' => e = .returned (.bool true) ∧ Below w.heap.size w w' := by
  have h1 := h.rd
  have h2 := h'.rd
  rw [hp] at h1
  rw [hp'] at h2
  rw [sbs_of hp, sbs_of hp']
  exact Subs.eqS_any _ _ c c' U w h1 h2 hl hz
theorem rdU {lo : Nat} {w : World} {M c : Nat} {us : List URow} {U : List PSb} (h : UB lo w M c us) (hp : sbs us = U) : RdU RdN w (some ⟨M, 0, none⟩) U := by have := h.rn; rwa [hp] at this
theorem rngU {lo : Nat} {w : World} {M c : Nat} {us : List URow} (h : UB lo w M c us) : ∀ k, blksU M us k → lo ≤ k ∧ k < w.heap.size := fun k hk => ⟨blksU_low h k hk, blksU_high h k hk⟩
theorem rowsU {lo : Nat} {w : World} {M c : Nat} {us : List URow} {n : Nat} (h : UB lo w M c us) (hn : ∀ u ∈ sbs us, u.P.length ≤ n) (h2 : n ≤ 2000000) : ∀ x ∈ us, x.rs.length ≤ 2000000 ∧ ∀ y ∈ x.rs, y.2.2.l.length ≤ 1048576 := fun x hx => by
  have h1 := hn x.sb (by unfold sbs; exact List.mem_map.2 ⟨x, hx, rfl⟩)
  have h3 : x.sb.P.length = x.rs.length := pals_len x.rs
  refine ⟨by omega, ?_⟩
  rcases h.rows.rows x hx with ⟨_, _, e⟩ | ⟨M', _, h⟩
  · rw [e]; intro y hy; simp at hy
  · exact fun y hy => (h.rows y hy).2.1
theorem fits_tell {U : List PSb} {x : PAl} (hz : FitsU U) (hx : FitA x) (hb : ∀ u ∈ U, u.P.length ≤ 1048576) : FitsU (tellS U x) := fun u hu => by
  obtain ⟨v, hv, rfl⟩ := List.mem_map.1 hu
  have h1 := (hz v hv).fits
  have h2 := hb v hv
  have e1 : (tellU x v).P = (tellB v.P v.g x).1 := rfl
  rw [show FitB (tellU x v) ↔ (tellU x v).P.length ≤ maxLen ∧ FitsP (tellU x v).P from ⟨fun h => ⟨h.1, h.2⟩, fun h => ⟨h.1, h.2⟩⟩, e1]
  unfold tellB
  split
  · exact ⟨(hz v hv).len, h1⟩
  · split
    · exact ⟨by simp [maxLen], fun i hi => by simp at hi⟩
    · refine ⟨ChnK.len_max (by simp; omega), fits_of fun y hy => ?_⟩
      rcases List.mem_append.1 hy with hy | hy
      · exact fits_mem h1 hy
      · rw [List.mem_singleton.1 hy]; exact hx
theorem tell_few {U : List PSb} {x : PAl} (hb : ∀ u ∈ U, u.P.length ≤ 1048576) : ∀ u ∈ tellS U x, u.P.length ≤ 1048577 := fun u hu => by
  obtain ⟨v, hv, rfl⟩ := List.mem_map.1 hu
  have h2 := hb v hv
  show (tellB v.P v.g x).1.length ≤ _
  unfold tellB
  split
  · exact Nat.le_trans h2 (by omega)
  · split
    · simp
    · simp; omega
theorem tell_sum (x : PAl) : ∀ U : List PSb, sumB (tellS U x) ≤ sumB U + U.length * (1 + x.l.length)
  | [] => by simp [tellS, sumB]
  | u :: U => by
    have ih := tell_sum x U
    have h1 : (tellB u.P u.g x).1.length + sumL (tellB u.P u.g x).1 ≤ u.P.length + sumL u.P + (1 + x.l.length) := by
      unfold tellB
      split
      · show u.P.length + sumL u.P ≤ _; omega
      · split
        · simp [sumL]
        · show (u.P ++ [x]).length + sumL (u.P ++ [x]) ≤ _; rw [sum_app]; simp [sumL]; omega
    show (tellB u.P u.g x).1.length + sumL (tellB u.P u.g x).1 + sumB (tellS U x) ≤ u.P.length + sumL u.P + sumB U + (U.length + 1) * (1 + x.l.length)
    rw [Nat.succ_mul]
    omega
theorem each_few {U : List PSb} {n : Nat} (h : sumB U ≤ n) : ∀ u ∈ U, u.P.length ≤ n := fun u hu => by have := sumB_mem hu; omega
theorem lenU {U : List PSb} (h : sumB U ≤ 1048576) : LenU U := fun i hi => by
  have h1 := sumB_nth hi
  exact ⟨lenM_of (by omega), by omega⟩
set_option maxRecDepth 100000 in
set_option maxHeartbeats 4000000 in
theorem walk (a0 : Option Addr) (cap0 : Nat) (l0 : List PSb) (a1 : Option Addr) (cap1 : Nat) (l1 : List Lab) (s1 e1 : Int) (n1 : ByteArray) (w : World) (r0 : RdU RdA w a0 l0) (m0 : l0.length ≤ maxLen) (z0 : FitsU l0) (g1 : AlIn w a1 l1 s1 e1 n1) :
    Calls Try.prog 3 #[.slice a0 l0.length cap0, .agg #[.slice a1 l1.length cap1, .int .i64 s1, .int .i64 e1, .string n1]] w fun e w' => e = .returned (.bool true) ∧ Below w.heap.size w w' := by
  have R0 : Hid (RdU RdA w a0 l0) := r0
  have M0 : Hid (l0.length ≤ maxLen) := m0
  have F0 : Hid (FitsU l0) := z0
  clear r0 m0 z0
  have R1 : Hid (Reads w a1 l1) := g1.reads
  have M1 : Hid (l1.length ≤ maxLen) := g1.len
  have G1 : Hid (AlIn w a1 l1 s1 e1 n1) := g1
  clear g1
  have B0 : Hid (Below w.heap.size w w) := Below.refl _ _
  go_enter Try.func3, Try.ntmps3
  go_wp2_with fail
  refine (Subs.szS_any a0 cap0 l0 1048576 _ (R0.out.below stays_rd (grow_on B0.out (Go.Joins.below_alloc1 w _))) M0.out F0.out (by omega) (by omega)).mono ?_
  rintro e w1 ⟨⟨k0, rfl, p0, hn⟩, hb⟩
  have P1_1 : Hid (Blk w1 w.heap.size #[.slice a1 l1.length cap1, .int .i64 s1, .int .i64 e1, .string n1] 25) := (Blk.new _ _ _).grow hb
  have U_P1 : Hid (w.heap.size ≤ w.heap.size ∧ w.heap.size < w1.heap.size) := ⟨by omega, P1_1.out.lt⟩
  replace hb := grow_on (Go.Joins.below_alloc1 w _) hb
  have B1 : Hid (Below w.heap.size w w1) := grow_on B0.out hb
  have Z1 : Hid (w.heap.size ≤ w1.heap.size) := hb.size
  clear hb
  by_cases g0 : k0 < 0
  · clear hn
    go_wp2
    go_ret
    exact ⟨rfl, B1.out⟩
  have K0 : Hid (l0.length ≤ 1048576 ∧ sumB l0 ≤ 1048576 ∧ l0.length + sumB l0 ≤ 1048576) := by have := hn (by omega); exact ⟨by omega, by omega, by omega⟩
  have N0 : Hid (LenU l0) := lenU K0.out.2.1
  clear hn
  have cP10 : w1.cell? ⟨w.heap.size, 0, none⟩ = some (.slice a1 l1.length cap1) := (P1_1.out).cell 0
  have cP11 : w1.cell? ⟨w.heap.size, 1, none⟩ = some (.int .i64 s1) := (P1_1.out).cell 1
  have cP12 : w1.cell? ⟨w.heap.size, 2, none⟩ = some (.int .i64 e1) := (P1_1.out).cell 2
  have cP13 : w1.cell? ⟨w.heap.size, 3, none⟩ = some (.string n1) := (P1_1.out).cell 3
  go_wp2_with fail
  refine (Alm.sz_any a1 cap1 l1 s1 e1 n1 k0 _ (G1.out.below B1.out) (by omega) (by omega)).mono ?_
  rintro e w2 ⟨⟨k1, rfl, p1, hn⟩, hb⟩
  have B2 : Hid (Below w.heap.size w w2) := grow_on B1.out hb
  have Z2 : Hid (w1.heap.size ≤ w2.heap.size) := hb.size
  have P1_2 : Hid (Blk w2 w.heap.size #[.slice a1 l1.length cap1, .int .i64 s1, .int .i64 e1, .string n1] 25) := P1_1.out.grow hb
  clear hb cP10 cP11 cP12 cP13
  by_cases g1 : k1 < 0
  · clear hn
    go_wp2
    go_ret
    exact ⟨rfl, B2.out⟩
  have K1 : Hid (l1.length ≤ 1048576) := by have := hn (by omega); show l1.length ≤ 1048576; omega
  clear hn
  have PL : Hid ((tellS l0 (⟨l1, s1, e1, n1⟩ : PAl)).length ≤ maxLen ∧ FitsU (tellS l0 (⟨l1, s1, e1, n1⟩ : PAl)) ∧ (tellS l0 (⟨l1, s1, e1, n1⟩ : PAl)).length = l0.length) := ⟨by rw [tellS_len]; exact M0.out, fits_tell F0.out ⟨M1.out, G1.out.fits, G1.out.sb, G1.out.eb, G1.out.note⟩ (each_few K0.out.2.1), tellS_len _ _⟩
  have PS : Hid (sumB (tellS l0 (⟨l1, s1, e1, n1⟩ : PAl)) ≤ 1200000000000) := by
    have h1 := tell_sum (⟨l1, s1, e1, n1⟩ : PAl) l0
    have h2 := K0.out
    have h3 := K1.out
    have h4 : l0.length * (1 + (⟨l1, s1, e1, n1⟩ : PAl).l.length) ≤ 1048576 * 1048577 := Nat.mul_le_mul h2.1 (by show 1 + l1.length ≤ 1048577; omega)
    show _ ≤ _
    omega
  have cP10 : w2.cell? ⟨w.heap.size, 0, none⟩ = some (.slice a1 l1.length cap1) := (P1_2.out).cell 0
  have cP11 : w2.cell? ⟨w.heap.size, 1, none⟩ = some (.int .i64 s1) := (P1_2.out).cell 1
  have cP12 : w2.cell? ⟨w.heap.size, 2, none⟩ = some (.int .i64 e1) := (P1_2.out).cell 2
  have cP13 : w2.cell? ⟨w.heap.size, 3, none⟩ = some (.string n1) := (P1_2.out).cell 3
  go_wp2
  have kz : Below w2.heap.size w2 w2.drew := (Below.refl _ _).drew
  have kP1 := P1_2.out.lt
  have HS : Hid (∀ w', Below w2.heap.size w2 w' → Below w2.heap.size w2 w' ∧ w'.cell? ⟨w.heap.size, 0, none⟩ = some (.slice a1 l1.length cap1) ∧ w'.cell? ⟨w.heap.size, 1, none⟩ = some (.int .i64 s1) ∧ w'.cell? ⟨w.heap.size, 2, none⟩ = some (.int .i64 e1) ∧ w'.cell? ⟨w.heap.size, 3, none⟩ = some (.string n1)) := fun w' h => ⟨h, (h.cell kP1).trans cP10, (h.cell kP1).trans cP11, (h.cell kP1).trans cP12, (h.cell kP1).trans cP13⟩
  go_region_held3 (fun w' => Below w2.heap.size w2 w' ∧ w'.cell? ⟨w.heap.size, 0, none⟩ = some (.slice a1 l1.length cap1) ∧ w'.cell? ⟨w.heap.size, 1, none⟩ = some (.int .i64 s1) ∧ w'.cell? ⟨w.heap.size, 2, none⟩ = some (.int .i64 e1) ∧ w'.cell? ⟨w.heap.size, 3, none⟩ = some (.string n1)) (first | with_reducible exact HS.out _ kz | with_reducible exact HS.out _ (grow_on kz hy0) | with_reducible exact HS.out _ (grow_on (grow_on kz hy0) hy1) | with_reducible exact HS.out _ (grow_on (grow_on (grow_on kz hy0) hy1) hy2) | (go_keep; done)) (first | (go_at_call 8; with_reducible refine (Subs.toS_any a0 cap0 l0 _ (R0.out.below stays_rd (grow_on B2.out kz)) K0.out.1 K0.out.2.1).mono ?_; rintro e wy0 ⟨rfl, ⟨T0r, hA0, hP0⟩, hy0⟩) | (go_at_call 9; with_reducible refine (Alm.to_any a1 cap1 l1 s1 e1 n1 _ (R1.out.below (grow_on B2.out (grow_on kz hy0))) K1.out).mono ?_; rintro e wy1 ⟨⟨T1M, T1cs, rfl, -, hk1, -, hh1⟩, hy1⟩) | (go_at_call 7; refine (specAll_any _ _ l0 _ _ _ (⟨l1, s1, e1, n1⟩ : PAl) _ (((rdU hA0 hP0).below stays_rn hy1)) (held_reads hk1 hh1) K0.out.1 N0.out K1.out).mono ?_; rintro e w3 ⟨⟨WM, Wc, Wr, rfl, hA, hP⟩, hy2⟩))
  have hb := (grow_on (grow_on (grow_on kz hy0) hy1) hy2)
  have W_3 : Hid (UB w2.heap.size w3 WM Wc Wr) := hA.down (grow_on (grow_on kz hy0) hy1).size
  have WP : Hid (sbs Wr = tellS l0 (⟨l1, s1, e1, n1⟩ : PAl)) := hP
  have WR : Hid (∀ k, blksU WM Wr k → w2.heap.size ≤ k ∧ k < w3.heap.size) := rngU W_3.out
  clear hA hP
  have B3 : Hid (Below w.heap.size w w3) := grow_on B2.out hb
  have Z3 : Hid (w2.heap.size ≤ w3.heap.size) := hb.size
  have P1_3 : Hid (Blk w3 w.heap.size #[.slice a1 l1.length cap1, .int .i64 s1, .int .i64 e1, .string n1] 25) := P1_2.out.grow hb
  clear hb kz HS hy0 hy1 hy2 kP1 cP10 cP11 cP12 cP13 hA0 hP0 hk1 hh1
  have cP10 : w3.cell? ⟨w.heap.size, 0, none⟩ = some (.slice a1 l1.length cap1) := (P1_3.out).cell 0
  have cP11 : w3.cell? ⟨w.heap.size, 1, none⟩ = some (.int .i64 s1) := (P1_3.out).cell 1
  have cP12 : w3.cell? ⟨w.heap.size, 2, none⟩ = some (.int .i64 e1) := (P1_3.out).cell 2
  have cP13 : w3.cell? ⟨w.heap.size, 3, none⟩ = some (.string n1) := (P1_3.out).cell 3
  go_wp2_with fail
  refine (Subs.toS_any a0 cap0 l0 _ (R0.out.below stays_rd B3.out) K0.out.1 K0.out.2.1).mono ?_
  rintro e w4 ⟨rfl, ⟨Xr, hA, hP⟩, hb⟩
  have X_4 : Hid (UB w3.heap.size w4 w3.heap.size l0.length Xr) := hA
  have XP : Hid (sbs Xr = l0) := hP
  have XR : Hid (∀ k, blksU w3.heap.size Xr k → w3.heap.size ≤ k ∧ k < w4.heap.size) := rngU hA
  clear hA hP
  have B4 : Hid (Below w.heap.size w w4) := grow_on B3.out hb
  have Z4 : Hid (w3.heap.size ≤ w4.heap.size) := hb.size
  have P1_4 : Hid (Blk w4 w.heap.size #[.slice a1 l1.length cap1, .int .i64 s1, .int .i64 e1, .string n1] 25) := P1_3.out.grow hb
  have W_4 : Hid (UB w2.heap.size w4 WM Wc Wr) := W_3.out.grow hb
  clear hb cP10 cP11 cP12 cP13
  have cP10 : w4.cell? ⟨w.heap.size, 0, none⟩ = some (.slice a1 l1.length cap1) := (P1_4.out).cell 0
  have cP11 : w4.cell? ⟨w.heap.size, 1, none⟩ = some (.int .i64 s1) := (P1_4.out).cell 1
  have cP12 : w4.cell? ⟨w.heap.size, 2, none⟩ = some (.int .i64 e1) := (P1_4.out).cell 2
  have cP13 : w4.cell? ⟨w.heap.size, 3, none⟩ = some (.string n1) := (P1_4.out).cell 3
  go_wp2_with fail
  refine (Alm.to_any a1 cap1 l1 s1 e1 n1 _ (R1.out.below B4.out) K1.out).mono ?_
  rintro e w5 ⟨⟨YM, Ycs, rfl, hXM, hk, hs, hh⟩, hb⟩
  have Y_5 : Hid (Blk w5 YM Ycs 71) := hk
  have Ys : Hid (Ycs.size = l1.length * 2) := hs
  have Yh : Hid (LabT.Held Ycs l1 l1.length) := hh
  have U_Y : Hid (w4.heap.size ≤ YM ∧ YM < w5.heap.size) := ⟨by first | exact hXM | omega, hk.lt⟩
  clear hk hs hh hXM
  have B5 : Hid (Below w.heap.size w w5) := grow_on B4.out hb
  have Z5 : Hid (w4.heap.size ≤ w5.heap.size) := hb.size
  have P1_5 : Hid (Blk w5 w.heap.size #[.slice a1 l1.length cap1, .int .i64 s1, .int .i64 e1, .string n1] 25) := P1_4.out.grow hb
  have W_5 : Hid (UB w2.heap.size w5 WM Wc Wr) := W_4.out.grow hb
  have X_5 : Hid (UB w3.heap.size w5 w3.heap.size l0.length Xr) := X_4.out.grow hb
  clear hb cP10 cP11 cP12 cP13
  have cP10 : (w5.alloc (.cells #[.slice (some ⟨YM, 0, none⟩) l1.length l1.length, .int .i64 s1, .int .i64 e1, .string n1] 33)).cell? ⟨w.heap.size, 0, none⟩ = some (.slice a1 l1.length cap1) := ((P1_5.out.alloc _)).cell 0
  have cP11 : (w5.alloc (.cells #[.slice (some ⟨YM, 0, none⟩) l1.length l1.length, .int .i64 s1, .int .i64 e1, .string n1] 33)).cell? ⟨w.heap.size, 1, none⟩ = some (.int .i64 s1) := ((P1_5.out.alloc _)).cell 1
  have cP12 : (w5.alloc (.cells #[.slice (some ⟨YM, 0, none⟩) l1.length l1.length, .int .i64 s1, .int .i64 e1, .string n1] 33)).cell? ⟨w.heap.size, 2, none⟩ = some (.int .i64 e1) := ((P1_5.out.alloc _)).cell 2
  have cP13 : (w5.alloc (.cells #[.slice (some ⟨YM, 0, none⟩) l1.length l1.length, .int .i64 s1, .int .i64 e1, .string n1] 33)).cell? ⟨w.heap.size, 3, none⟩ = some (.string n1) := ((P1_5.out.alloc _)).cell 3
  go_wp2_with fail
  refine (implAll_any _ _ l0 _ _ (⟨l1, s1, e1, n1⟩ : PAl) _ (RdU.below stays_rd (RdU.rd (rdU X_5.out XP.out)) (Go.Joins.below_alloc1 w5 _)) ((held_reads Y_5.out Yh.out).below (Go.Joins.below_alloc1 w5 _)) K0.out.1 N0.out K1.out).mono ?_
  rintro e w6 ⟨⟨GM, Gr, rfl, hA, hP⟩, hb⟩
  have G_6 : Hid (UB w5.heap.size w6 GM Gr.length Gr) := hA.down (by simp)
  have GP : Hid (sbs Gr = tellS l0 (⟨l1, s1, e1, n1⟩ : PAl)) := hP
  have GR : Hid (∀ k, blksU GM Gr k → w5.heap.size < k ∧ k < w6.heap.size) := fun k hk => by have := rngU hA k hk; simp at this; omega
  have GL : Hid (∀ x ∈ Gr, x.rs.length ≤ 2000000 ∧ ∀ y ∈ x.rs, y.2.2.l.length ≤ 1048576) := rowsU hA (by rw [hP]; exact tell_few (each_few K0.out.2.1)) (by omega)
  clear hA hP
  have Q1_6 : Hid (Blk w6 w5.heap.size #[.slice (some ⟨YM, 0, none⟩) l1.length l1.length, .int .i64 s1, .int .i64 e1, .string n1] 33) := (Blk.new _ _ _).grow hb
  have U_Q1 : Hid (w5.heap.size ≤ w5.heap.size ∧ w5.heap.size < w6.heap.size) := ⟨by omega, Q1_6.out.lt⟩
  replace hb := grow_on (Go.Joins.below_alloc1 w5 _) hb
  have B6 : Hid (Below w.heap.size w w6) := grow_on B5.out hb
  have Z6 : Hid (w5.heap.size ≤ w6.heap.size) := hb.size
  have P1_6 : Hid (Blk w6 w.heap.size #[.slice a1 l1.length cap1, .int .i64 s1, .int .i64 e1, .string n1] 25) := P1_5.out.grow hb
  have W_6 : Hid (UB w2.heap.size w6 WM Wc Wr) := W_5.out.grow hb
  have X_6 : Hid (UB w3.heap.size w6 w3.heap.size l0.length Xr) := X_5.out.grow hb
  have Y_6 : Hid (Blk w6 YM Ycs 71) := Y_5.out.grow hb
  clear hb cP10 cP11 cP12 cP13
  have cP10 : w6.cell? ⟨w.heap.size, 0, none⟩ = some (.slice a1 l1.length cap1) := (P1_6.out).cell 0
  have cP11 : w6.cell? ⟨w.heap.size, 1, none⟩ = some (.int .i64 s1) := (P1_6.out).cell 1
  have cP12 : w6.cell? ⟨w.heap.size, 2, none⟩ = some (.int .i64 e1) := (P1_6.out).cell 2
  have cP13 : w6.cell? ⟨w.heap.size, 3, none⟩ = some (.string n1) := (P1_6.out).cell 3
  have cQ10 : w6.cell? ⟨w5.heap.size, 0, none⟩ = some (.slice (some ⟨YM, 0, none⟩) l1.length l1.length) := (Q1_6.out).cell 0
  have cQ11 : w6.cell? ⟨w5.heap.size, 1, none⟩ = some (.int .i64 s1) := (Q1_6.out).cell 1
  have cQ12 : w6.cell? ⟨w5.heap.size, 2, none⟩ = some (.int .i64 e1) := (Q1_6.out).cell 2
  have cQ13 : w6.cell? ⟨w5.heap.size, 3, none⟩ = some (.string n1) := (Q1_6.out).cell 3
  go_wp2_with fail
  refine (eqL_any _ _ _ _ _ _ _ _ Gr Wr _ _ G_6.out W_6.out GP.out WP.out PL.out.1 PL.out.2.1).mono ?_
  rintro e w7 ⟨rfl, hb⟩
  have B7 : Hid (Below w.heap.size w w7) := grow_on B6.out hb
  have Z7 : Hid (w6.heap.size ≤ w7.heap.size) := hb.size
  have P1_7 : Hid (Blk w7 w.heap.size #[.slice a1 l1.length cap1, .int .i64 s1, .int .i64 e1, .string n1] 25) := P1_6.out.grow hb
  have W_7 : Hid (UB w2.heap.size w7 WM Wc Wr) := W_6.out.grow hb
  have X_7 : Hid (UB w3.heap.size w7 w3.heap.size l0.length Xr) := X_6.out.grow hb
  have Y_7 : Hid (Blk w7 YM Ycs 71) := Y_6.out.grow hb
  have Q1_7 : Hid (Blk w7 w5.heap.size #[.slice (some ⟨YM, 0, none⟩) l1.length l1.length, .int .i64 s1, .int .i64 e1, .string n1] 33) := Q1_6.out.grow hb
  have G_7 : Hid (UB w5.heap.size w7 GM Gr.length Gr) := G_6.out.grow hb
  clear hb cP10 cP11 cP12 cP13 cQ10 cQ11 cQ12 cQ13
  have cP10 : w7.cell? ⟨w.heap.size, 0, none⟩ = some (.slice a1 l1.length cap1) := (P1_7.out).cell 0
  have cP11 : w7.cell? ⟨w.heap.size, 1, none⟩ = some (.int .i64 s1) := (P1_7.out).cell 1
  have cP12 : w7.cell? ⟨w.heap.size, 2, none⟩ = some (.int .i64 e1) := (P1_7.out).cell 2
  have cP13 : w7.cell? ⟨w.heap.size, 3, none⟩ = some (.string n1) := (P1_7.out).cell 3
  have cQ10 : w7.cell? ⟨w5.heap.size, 0, none⟩ = some (.slice (some ⟨YM, 0, none⟩) l1.length l1.length) := (Q1_7.out).cell 0
  have cQ11 : w7.cell? ⟨w5.heap.size, 1, none⟩ = some (.int .i64 s1) := (Q1_7.out).cell 1
  have cQ12 : w7.cell? ⟨w5.heap.size, 2, none⟩ = some (.int .i64 e1) := (Q1_7.out).cell 2
  have cQ13 : w7.cell? ⟨w5.heap.size, 3, none⟩ = some (.string n1) := (Q1_7.out).cell 3
  go_wp2_with fail
  refine (Subs.toS_any a0 cap0 l0 _ (R0.out.below stays_rd B7.out) K0.out.1 K0.out.2.1).mono ?_
  rintro e w8 ⟨rfl, ⟨Er, hA, hP⟩, hb⟩
  have E_8 : Hid (UB w7.heap.size w8 w7.heap.size l0.length Er) := hA
  have EP : Hid (sbs Er = l0) := hP
  have ER : Hid (∀ k, blksU w7.heap.size Er k → w7.heap.size ≤ k ∧ k < w8.heap.size) := rngU hA
  clear hA hP
  have B8 : Hid (Below w.heap.size w w8) := grow_on B7.out hb
  have Z8 : Hid (w7.heap.size ≤ w8.heap.size) := hb.size
  have P1_8 : Hid (Blk w8 w.heap.size #[.slice a1 l1.length cap1, .int .i64 s1, .int .i64 e1, .string n1] 25) := P1_7.out.grow hb
  have W_8 : Hid (UB w2.heap.size w8 WM Wc Wr) := W_7.out.grow hb
  have X_8 : Hid (UB w3.heap.size w8 w3.heap.size l0.length Xr) := X_7.out.grow hb
  have Y_8 : Hid (Blk w8 YM Ycs 71) := Y_7.out.grow hb
  have Q1_8 : Hid (Blk w8 w5.heap.size #[.slice (some ⟨YM, 0, none⟩) l1.length l1.length, .int .i64 s1, .int .i64 e1, .string n1] 33) := Q1_7.out.grow hb
  have G_8 : Hid (UB w5.heap.size w8 GM Gr.length Gr) := G_7.out.grow hb
  clear hb cP10 cP11 cP12 cP13 cQ10 cQ11 cQ12 cQ13
  have cP10 : w8.cell? ⟨w.heap.size, 0, none⟩ = some (.slice a1 l1.length cap1) := (P1_8.out).cell 0
  have cP11 : w8.cell? ⟨w.heap.size, 1, none⟩ = some (.int .i64 s1) := (P1_8.out).cell 1
  have cP12 : w8.cell? ⟨w.heap.size, 2, none⟩ = some (.int .i64 e1) := (P1_8.out).cell 2
  have cP13 : w8.cell? ⟨w.heap.size, 3, none⟩ = some (.string n1) := (P1_8.out).cell 3
  have cQ10 : w8.cell? ⟨w5.heap.size, 0, none⟩ = some (.slice (some ⟨YM, 0, none⟩) l1.length l1.length) := (Q1_8.out).cell 0
  have cQ11 : w8.cell? ⟨w5.heap.size, 1, none⟩ = some (.int .i64 s1) := (Q1_8.out).cell 1
  have cQ12 : w8.cell? ⟨w5.heap.size, 2, none⟩ = some (.int .i64 e1) := (Q1_8.out).cell 2
  have cQ13 : w8.cell? ⟨w5.heap.size, 3, none⟩ = some (.string n1) := (Q1_8.out).cell 3
  go_wp2_with fail
  refine (Subs.eqS_any _ _ _ _ l0 _ (RdU.rd (rdU X_8.out XP.out)) (RdU.rd (rdU E_8.out EP.out)) M0.out F0.out).mono ?_
  rintro e w9 ⟨rfl, hb⟩
  have B9 : Hid (Below w.heap.size w w9) := grow_on B8.out hb
  have Z9 : Hid (w8.heap.size ≤ w9.heap.size) := hb.size
  have P1_9 : Hid (Blk w9 w.heap.size #[.slice a1 l1.length cap1, .int .i64 s1, .int .i64 e1, .string n1] 25) := P1_8.out.grow hb
  have W_9 : Hid (UB w2.heap.size w9 WM Wc Wr) := W_8.out.grow hb
  have X_9 : Hid (UB w3.heap.size w9 w3.heap.size l0.length Xr) := X_8.out.grow hb
  have Y_9 : Hid (Blk w9 YM Ycs 71) := Y_8.out.grow hb
  have Q1_9 : Hid (Blk w9 w5.heap.size #[.slice (some ⟨YM, 0, none⟩) l1.length l1.length, .int .i64 s1, .int .i64 e1, .string n1] 33) := Q1_8.out.grow hb
  have G_9 : Hid (UB w5.heap.size w9 GM Gr.length Gr) := G_8.out.grow hb
  have E_9 : Hid (UB w7.heap.size w9 w7.heap.size l0.length Er) := E_8.out.grow hb
  clear hb cP10 cP11 cP12 cP13 cQ10 cQ11 cQ12 cQ13
  have eA : Alm.sameB l1 s1 e1 n1 l1 s1 e1 n1 = true := Alm.same_self _ _ _ _
  have cP10 : w9.cell? ⟨w.heap.size, 0, none⟩ = some (.slice a1 l1.length cap1) := (P1_9.out).cell 0
  have cP11 : w9.cell? ⟨w.heap.size, 1, none⟩ = some (.int .i64 s1) := (P1_9.out).cell 1
  have cP12 : w9.cell? ⟨w.heap.size, 2, none⟩ = some (.int .i64 e1) := (P1_9.out).cell 2
  have cP13 : w9.cell? ⟨w.heap.size, 3, none⟩ = some (.string n1) := (P1_9.out).cell 3
  have cQ10 : w9.cell? ⟨w5.heap.size, 0, none⟩ = some (.slice (some ⟨YM, 0, none⟩) l1.length l1.length) := (Q1_9.out).cell 0
  have cQ11 : w9.cell? ⟨w5.heap.size, 1, none⟩ = some (.int .i64 s1) := (Q1_9.out).cell 1
  have cQ12 : w9.cell? ⟨w5.heap.size, 2, none⟩ = some (.int .i64 e1) := (Q1_9.out).cell 2
  have cQ13 : w9.cell? ⟨w5.heap.size, 3, none⟩ = some (.string n1) := (Q1_9.out).cell 3
  go_wp2
  have kz : Below w9.heap.size w9 w9.drew := (Below.refl _ _).drew
  have kP1 := P1_9.out.lt
  have kQ1 := Q1_9.out.lt
  have HS : Hid (∀ w', Below w9.heap.size w9 w' → Below w9.heap.size w9 w' ∧ w'.cell? ⟨w.heap.size, 0, none⟩ = some (.slice a1 l1.length cap1) ∧ w'.cell? ⟨w.heap.size, 1, none⟩ = some (.int .i64 s1) ∧ w'.cell? ⟨w.heap.size, 2, none⟩ = some (.int .i64 e1) ∧ w'.cell? ⟨w.heap.size, 3, none⟩ = some (.string n1) ∧ w'.cell? ⟨w5.heap.size, 0, none⟩ = some (.slice (some ⟨YM, 0, none⟩) l1.length l1.length) ∧ w'.cell? ⟨w5.heap.size, 1, none⟩ = some (.int .i64 s1) ∧ w'.cell? ⟨w5.heap.size, 2, none⟩ = some (.int .i64 e1) ∧ w'.cell? ⟨w5.heap.size, 3, none⟩ = some (.string n1)) := fun w' h => ⟨h, (h.cell kP1).trans cP10, (h.cell kP1).trans cP11, (h.cell kP1).trans cP12, (h.cell kP1).trans cP13, (h.cell kQ1).trans cQ10, (h.cell kQ1).trans cQ11, (h.cell kQ1).trans cQ12, (h.cell kQ1).trans cQ13⟩
  go_region_held3 (fun w' => Below w9.heap.size w9 w' ∧ w'.cell? ⟨w.heap.size, 0, none⟩ = some (.slice a1 l1.length cap1) ∧ w'.cell? ⟨w.heap.size, 1, none⟩ = some (.int .i64 s1) ∧ w'.cell? ⟨w.heap.size, 2, none⟩ = some (.int .i64 e1) ∧ w'.cell? ⟨w.heap.size, 3, none⟩ = some (.string n1) ∧ w'.cell? ⟨w5.heap.size, 0, none⟩ = some (.slice (some ⟨YM, 0, none⟩) l1.length l1.length) ∧ w'.cell? ⟨w5.heap.size, 1, none⟩ = some (.int .i64 s1) ∧ w'.cell? ⟨w5.heap.size, 2, none⟩ = some (.int .i64 e1) ∧ w'.cell? ⟨w5.heap.size, 3, none⟩ = some (.string n1)) (first | with_reducible exact HS.out _ kz | with_reducible exact HS.out _ (grow_on kz hy0) | with_reducible exact HS.out _ (grow_on (grow_on kz hy0) hy1) | (go_keep; done)) (first | (go_at_call 9; with_reducible refine (Alm.to_any a1 cap1 l1 s1 e1 n1 _ (R1.out.below (grow_on B9.out kz)) K1.out).mono ?_; rintro e wy ⟨⟨EM, Ecs, rfl, -, hk, -, hh⟩, hy0⟩) | (go_at_call 12; refine (Alm.eq_any _ _ _ _ l1 l1 s1 e1 s1 e1 n1 n1 _ ((held_reads Y_9.out Yh.out).below (grow_on kz hy0)) (held_reads hk hh) M1.out M1.out).mono ?_; rintro e w10 ⟨rfl, hy1⟩))
  have hb := (grow_on (grow_on kz hy0) hy1)
  have B10 : Hid (Below w.heap.size w w10) := grow_on B9.out hb
  have Z10 : Hid (w9.heap.size ≤ w10.heap.size) := hb.size
  have P1_10 : Hid (Blk w10 w.heap.size #[.slice a1 l1.length cap1, .int .i64 s1, .int .i64 e1, .string n1] 25) := P1_9.out.grow hb
  have W_10 : Hid (UB w2.heap.size w10 WM Wc Wr) := W_9.out.grow hb
  have X_10 : Hid (UB w3.heap.size w10 w3.heap.size l0.length Xr) := X_9.out.grow hb
  have Y_10 : Hid (Blk w10 YM Ycs 71) := Y_9.out.grow hb
  have Q1_10 : Hid (Blk w10 w5.heap.size #[.slice (some ⟨YM, 0, none⟩) l1.length l1.length, .int .i64 s1, .int .i64 e1, .string n1] 33) := Q1_9.out.grow hb
  have G_10 : Hid (UB w5.heap.size w10 GM Gr.length Gr) := G_9.out.grow hb
  clear hb kz HS hy0 hy1 kP1 kQ1 cP10 cP11 cP12 cP13 cQ10 cQ11 cQ12 cQ13 hk hh
  have XL : Hid (Xr.length = l0.length) := sbs_of XP.out
  have XS : Hid (1 + sumU Xr ≤ 9000000) := by have h1 := sumU_sbs Xr; rw [XP.out, XL.out] at h1; have h2 := K0.out; show _ ≤ _; omega
  have hXM : Hid (Calls Try.prog 13 #[.slice (some ⟨w3.heap.size, 0, none⟩) l0.length l0.length, .int .i64 1] w10 fun e w' => e = .returned (.int .i64 ((1 + sumU Xr : Nat) : Int)) ∧ Only (blksU w3.heap.size Xr) w10 w') := by
    have h := (markUS_any w3.heap.size l0.length 1 _ l0.length Xr w10 X_10.out (by rw [XL.out]; have := K0.out.1; omega) (fun x hx => (rowsU X_10.out (by rw [XP.out]; exact each_few K0.out.2.1) (by omega) x hx).1) (by omega) (by have := XS.out; omega)).mono (fun e w' h => (⟨h.1, h.2.2⟩ : e = .returned (.int .i64 ((1 + sumU Xr : Nat) : Int)) ∧ Only (blksU w3.heap.size Xr) w10 w'))
    rw [XL.out] at h
    exact h
  have cP10 : w10.cell? ⟨w.heap.size, 0, none⟩ = some (.slice a1 l1.length cap1) := (P1_10.out).cell 0
  have cP11 : w10.cell? ⟨w.heap.size, 1, none⟩ = some (.int .i64 s1) := (P1_10.out).cell 1
  have cP12 : w10.cell? ⟨w.heap.size, 2, none⟩ = some (.int .i64 e1) := (P1_10.out).cell 2
  have cP13 : w10.cell? ⟨w.heap.size, 3, none⟩ = some (.string n1) := (P1_10.out).cell 3
  have cQ10 : w10.cell? ⟨w5.heap.size, 0, none⟩ = some (.slice (some ⟨YM, 0, none⟩) l1.length l1.length) := (Q1_10.out).cell 0
  have cQ11 : w10.cell? ⟨w5.heap.size, 1, none⟩ = some (.int .i64 s1) := (Q1_10.out).cell 1
  have cQ12 : w10.cell? ⟨w5.heap.size, 2, none⟩ = some (.int .i64 e1) := (Q1_10.out).cell 2
  have cQ13 : w10.cell? ⟨w5.heap.size, 3, none⟩ = some (.string n1) := (Q1_10.out).cell 3
  go_wp2_with fail
  refine (hXM.out).mono ?_
  rintro e w11 ⟨rfl, ho⟩
  have B11 : Hid (Below w.heap.size w w11) := B10.out.trans (ho.low (fun k hk => by have hx := XR.out k hk; have hw := B3.out.size; omega) B10.out.size)
  have Z11 : Hid (w10.heap.size ≤ w11.heap.size) := ho.size
  have P1_11 : Hid (Blk w11 w.heap.size #[.slice a1 l1.length cap1, .int .i64 s1, .int .i64 e1, .string n1] 25) := ho.blk P1_10.out (fun hs => by have hx := XR.out _ hs; have h0 := Z1.out; have h1 := Z2.out; have h2 := Z3.out; have h3 := Z4.out; have h4 := Z5.out; have h5 := Z6.out; have h6 := Z7.out; have h7 := Z8.out; have h8 := Z9.out; have h9 := Z10.out; have h10 := Z11.out; have h11 := U_P1.out; have h12 := U_Y.out; have h13 := U_Q1.out; omega)
  have W_11 : Hid (UB w2.heap.size w11 WM Wc Wr) := ub_only W_10.out ho (fun k hk hs => by have hx := XR.out k hs; have hy := WR.out k hk; have h0 := Z1.out; have h1 := Z2.out; have h2 := Z3.out; have h3 := Z4.out; have h4 := Z5.out; have h5 := Z6.out; have h6 := Z7.out; have h7 := Z8.out; have h8 := Z9.out; have h9 := Z10.out; have h10 := Z11.out; have h11 := U_P1.out; have h12 := U_Y.out; have h13 := U_Q1.out; omega)
  have Y_11 : Hid (Blk w11 YM Ycs 71) := ho.blk Y_10.out (fun hs => by have hx := XR.out _ hs; have h0 := Z1.out; have h1 := Z2.out; have h2 := Z3.out; have h3 := Z4.out; have h4 := Z5.out; have h5 := Z6.out; have h6 := Z7.out; have h7 := Z8.out; have h8 := Z9.out; have h9 := Z10.out; have h10 := Z11.out; have h11 := U_P1.out; have h12 := U_Y.out; have h13 := U_Q1.out; omega)
  have Q1_11 : Hid (Blk w11 w5.heap.size #[.slice (some ⟨YM, 0, none⟩) l1.length l1.length, .int .i64 s1, .int .i64 e1, .string n1] 33) := ho.blk Q1_10.out (fun hs => by have hx := XR.out _ hs; have h0 := Z1.out; have h1 := Z2.out; have h2 := Z3.out; have h3 := Z4.out; have h4 := Z5.out; have h5 := Z6.out; have h6 := Z7.out; have h7 := Z8.out; have h8 := Z9.out; have h9 := Z10.out; have h10 := Z11.out; have h11 := U_P1.out; have h12 := U_Y.out; have h13 := U_Q1.out; omega)
  have G_11 : Hid (UB w5.heap.size w11 GM Gr.length Gr) := ub_only G_10.out ho (fun k hk hs => by have hx := XR.out k hs; have hy := GR.out k hk; have h0 := Z1.out; have h1 := Z2.out; have h2 := Z3.out; have h3 := Z4.out; have h4 := Z5.out; have h5 := Z6.out; have h6 := Z7.out; have h7 := Z8.out; have h8 := Z9.out; have h9 := Z10.out; have h10 := Z11.out; have h11 := U_P1.out; have h12 := U_Y.out; have h13 := U_Q1.out; omega)
  clear ho cP10 cP11 cP12 cP13 cQ10 cQ11 cQ12 cQ13
  have MX : Hid (1 ≤ 1 + sumU Xr ∧ 1 + sumU Xr ≤ 10000000) := by have := XS.out; exact ⟨by omega, by omega⟩
  generalize 1 + sumU Xr = m1 at MX ⊢
  have cP10 : w11.cell? ⟨w.heap.size, 0, none⟩ = some (.slice a1 l1.length cap1) := (P1_11.out).cell 0
  have cP11 : w11.cell? ⟨w.heap.size, 1, none⟩ = some (.int .i64 s1) := (P1_11.out).cell 1
  have cP12 : w11.cell? ⟨w.heap.size, 2, none⟩ = some (.int .i64 e1) := (P1_11.out).cell 2
  have cP13 : w11.cell? ⟨w.heap.size, 3, none⟩ = some (.string n1) := (P1_11.out).cell 3
  have cQ10 : w11.cell? ⟨w5.heap.size, 0, none⟩ = some (.slice (some ⟨YM, 0, none⟩) l1.length l1.length) := (Q1_11.out).cell 0
  have cQ11 : w11.cell? ⟨w5.heap.size, 1, none⟩ = some (.int .i64 s1) := (Q1_11.out).cell 1
  have cQ12 : w11.cell? ⟨w5.heap.size, 2, none⟩ = some (.int .i64 e1) := (Q1_11.out).cell 2
  have cQ13 : w11.cell? ⟨w5.heap.size, 3, none⟩ = some (.string n1) := (Q1_11.out).cell 3
  go_wp2_with fail
  refine (AlmK.markA_any YM l1.length l1.length m1 s1 e1 n1 Ycs _ Y_11.out (by rw [Ys.out]; exact Nat.le_refl _) K1.out MX.out.1 MX.out.2).mono ?_
  rintro e w12 ⟨rfl, -, ha⟩
  have B12 : Hid (Below w.heap.size w w12) := B11.out.trans (ha.low (by have h0 := B4.out.size; have h0 := Z1.out; have h1 := Z2.out; have h2 := Z3.out; have h3 := Z4.out; have h4 := Z5.out; have h5 := Z6.out; have h6 := Z7.out; have h7 := Z8.out; have h8 := Z9.out; have h9 := Z10.out; have h10 := Z11.out; have h11 := U_P1.out; have h12 := U_Y.out; have h13 := U_Q1.out; omega) B11.out.size)
  have Z12 : Hid (w11.heap.size ≤ w12.heap.size) := ha.size
  have P1_12 : Hid (Blk w12 w.heap.size #[.slice a1 l1.length cap1, .int .i64 s1, .int .i64 e1, .string n1] 25) := ha.blk P1_11.out (by have h0 := Z1.out; have h1 := Z2.out; have h2 := Z3.out; have h3 := Z4.out; have h4 := Z5.out; have h5 := Z6.out; have h6 := Z7.out; have h7 := Z8.out; have h8 := Z9.out; have h9 := Z10.out; have h10 := Z11.out; have h11 := Z12.out; have h12 := U_P1.out; have h13 := U_Y.out; have h14 := U_Q1.out; omega)
  have W_12 : Hid (UB w2.heap.size w12 WM Wc Wr) := ub_only W_11.out (Only.apart (S := fun k => k = YM) ha rfl) (fun k hk hs => by have hy := WR.out k hk; have h0 := Z1.out; have h1 := Z2.out; have h2 := Z3.out; have h3 := Z4.out; have h4 := Z5.out; have h5 := Z6.out; have h6 := Z7.out; have h7 := Z8.out; have h8 := Z9.out; have h9 := Z10.out; have h10 := Z11.out; have h11 := Z12.out; have h12 := U_P1.out; have h13 := U_Y.out; have h14 := U_Q1.out; omega)
  have G_12 : Hid (UB w5.heap.size w12 GM Gr.length Gr) := ub_only G_11.out (Only.apart (S := fun k => k = YM) ha rfl) (fun k hk hs => by have hy := GR.out k hk; have h0 := Z1.out; have h1 := Z2.out; have h2 := Z3.out; have h3 := Z4.out; have h4 := Z5.out; have h5 := Z6.out; have h6 := Z7.out; have h7 := Z8.out; have h8 := Z9.out; have h9 := Z10.out; have h10 := Z11.out; have h11 := Z12.out; have h12 := U_P1.out; have h13 := U_Y.out; have h14 := U_Q1.out; omega)
  clear ha cP10 cP11 cP12 cP13 cQ10 cQ11 cQ12 cQ13
  have hq : ¬ ((m1 + 2 * l1.length : Nat) : Int) < 0 := by omega
  generalize m1 + 2 * l1.length = m2 at hq ⊢
  have cP10 : w12.cell? ⟨w.heap.size, 0, none⟩ = some (.slice a1 l1.length cap1) := (P1_12.out).cell 0
  have cP11 : w12.cell? ⟨w.heap.size, 1, none⟩ = some (.int .i64 s1) := (P1_12.out).cell 1
  have cP12 : w12.cell? ⟨w.heap.size, 2, none⟩ = some (.int .i64 e1) := (P1_12.out).cell 2
  have cP13 : w12.cell? ⟨w.heap.size, 3, none⟩ = some (.string n1) := (P1_12.out).cell 3
  go_wp2_with fail
  refine (eqL_any _ _ _ _ _ _ _ _ Gr Wr _ _ G_12.out W_12.out GP.out WP.out PL.out.1 PL.out.2.1).mono ?_
  rintro e w13 ⟨rfl, hb⟩
  have B13 : Hid (Below w.heap.size w w13) := grow_on B12.out hb
  have Z13 : Hid (w12.heap.size ≤ w13.heap.size) := hb.size
  have P1_13 : Hid (Blk w13 w.heap.size #[.slice a1 l1.length cap1, .int .i64 s1, .int .i64 e1, .string n1] 25) := P1_12.out.grow hb
  have W_13 : Hid (UB w2.heap.size w13 WM Wc Wr) := W_12.out.grow hb
  have G_13 : Hid (UB w5.heap.size w13 GM Gr.length Gr) := G_12.out.grow hb
  clear hb cP10 cP11 cP12 cP13
  clear hq
  have GS : Hid (1 + sumU Gr ≤ 90000000000000 ∧ Gr.length ≤ 2000000) := by have h1 := sumU_sbs Gr; have h2 := sbs_of GP.out; rw [GP.out, h2, PL.out.2.2] at h1; rw [PL.out.2.2] at h2; have h3 := PS.out; have h4 := K0.out; exact ⟨by omega, by omega⟩
  have cP10 : w13.cell? ⟨w.heap.size, 0, none⟩ = some (.slice a1 l1.length cap1) := (P1_13.out).cell 0
  have cP11 : w13.cell? ⟨w.heap.size, 1, none⟩ = some (.int .i64 s1) := (P1_13.out).cell 1
  have cP12 : w13.cell? ⟨w.heap.size, 2, none⟩ = some (.int .i64 e1) := (P1_13.out).cell 2
  have cP13 : w13.cell? ⟨w.heap.size, 3, none⟩ = some (.string n1) := (P1_13.out).cell 3
  go_wp2_with fail
  refine (markUS_any GM Gr.length 1 _ Gr.length Gr w13 G_13.out GS.out.2 (fun x hx => (GL.out x hx).1) (by omega) GS.out.1).mono ?_
  rintro e w14 ⟨rfl, hm, ho⟩
  have B14 : Hid (Below w.heap.size w w14) := B13.out.trans (ho.low (fun k hk => by have hx := GR.out k hk; have hw := B4.out.size; have h0 := Z1.out; have h1 := Z2.out; have h2 := Z3.out; have h3 := Z4.out; have h4 := Z5.out; have h5 := Z6.out; have h6 := Z7.out; have h7 := Z8.out; have h8 := Z9.out; have h9 := Z10.out; have h10 := Z11.out; have h11 := Z12.out; have h12 := Z13.out; have h13 := U_P1.out; have h14 := U_Y.out; have h15 := U_Q1.out; omega) B13.out.size)
  have Z14 : Hid (w13.heap.size ≤ w14.heap.size) := ho.size
  have P1_14 : Hid (Blk w14 w.heap.size #[.slice a1 l1.length cap1, .int .i64 s1, .int .i64 e1, .string n1] 25) := ho.blk P1_13.out (fun hs => by have hx := GR.out _ hs; have h0 := Z1.out; have h1 := Z2.out; have h2 := Z3.out; have h3 := Z4.out; have h4 := Z5.out; have h5 := Z6.out; have h6 := Z7.out; have h7 := Z8.out; have h8 := Z9.out; have h9 := Z10.out; have h10 := Z11.out; have h11 := Z12.out; have h12 := Z13.out; have h13 := Z14.out; have h14 := U_P1.out; have h15 := U_Y.out; have h16 := U_Q1.out; omega)
  have W_14 : Hid (UB w2.heap.size w14 WM Wc Wr) := ub_only W_13.out ho (fun k hk hs => by have hx := GR.out k hs; have hy := WR.out k hk; have h0 := Z1.out; have h1 := Z2.out; have h2 := Z3.out; have h3 := Z4.out; have h4 := Z5.out; have h5 := Z6.out; have h6 := Z7.out; have h7 := Z8.out; have h8 := Z9.out; have h9 := Z10.out; have h10 := Z11.out; have h11 := Z12.out; have h12 := Z13.out; have h13 := Z14.out; have h14 := U_P1.out; have h15 := U_Y.out; have h16 := U_Q1.out; omega)
  have H_14 : Hid (MU w14 GM Gr 1 Gr.length) := hm
  clear hm
  clear ho cP10 cP11 cP12 cP13
  have hq : ¬ ((1 + sumU Gr : Nat) : Int) < 0 := by omega
  have cP10 : w14.cell? ⟨w.heap.size, 0, none⟩ = some (.slice a1 l1.length cap1) := (P1_14.out).cell 0
  have cP11 : w14.cell? ⟨w.heap.size, 1, none⟩ = some (.int .i64 s1) := (P1_14.out).cell 1
  have cP12 : w14.cell? ⟨w.heap.size, 2, none⟩ = some (.int .i64 e1) := (P1_14.out).cell 2
  have cP13 : w14.cell? ⟨w.heap.size, 3, none⟩ = some (.string n1) := (P1_14.out).cell 3
  go_wp2_with fail
  refine (heldUS_any GM 1 Gr.length Gr _ H_14.out GL.out GS.out.2 (by omega) GS.out.1).mono ?_
  rintro e w15 ⟨rfl, hb⟩
  have B15 : Hid (Below w.heap.size w w15) := grow_on B14.out hb
  have Z15 : Hid (w14.heap.size ≤ w15.heap.size) := hb.size
  have P1_15 : Hid (Blk w15 w.heap.size #[.slice a1 l1.length cap1, .int .i64 s1, .int .i64 e1, .string n1] 25) := P1_14.out.grow hb
  have W_15 : Hid (UB w2.heap.size w15 WM Wc Wr) := W_14.out.grow hb
  have H_15 : Hid (MU w15 GM Gr 1 Gr.length) := H_14.out.grow hb
  clear hb cP10 cP11 cP12 cP13
  have cP10 : w15.cell? ⟨w.heap.size, 0, none⟩ = some (.slice a1 l1.length cap1) := (P1_15.out).cell 0
  have cP11 : w15.cell? ⟨w.heap.size, 1, none⟩ = some (.int .i64 s1) := (P1_15.out).cell 1
  have cP12 : w15.cell? ⟨w.heap.size, 2, none⟩ = some (.int .i64 e1) := (P1_15.out).cell 2
  have cP13 : w15.cell? ⟨w.heap.size, 3, none⟩ = some (.string n1) := (P1_15.out).cell 3
  go_wp2
  have kz : Below w15.heap.size w15 w15.drew := (Below.refl _ _).drew
  have kP1 := P1_15.out.lt
  have HS : Hid (∀ w', Below w15.heap.size w15 w' → Below w15.heap.size w15 w' ∧ w'.cell? ⟨w.heap.size, 0, none⟩ = some (.slice a1 l1.length cap1) ∧ w'.cell? ⟨w.heap.size, 1, none⟩ = some (.int .i64 s1) ∧ w'.cell? ⟨w.heap.size, 2, none⟩ = some (.int .i64 e1) ∧ w'.cell? ⟨w.heap.size, 3, none⟩ = some (.string n1)) := fun w' h => ⟨h, (h.cell kP1).trans cP10, (h.cell kP1).trans cP11, (h.cell kP1).trans cP12, (h.cell kP1).trans cP13⟩
  go_region_held3 (fun w' => Below w15.heap.size w15 w' ∧ w'.cell? ⟨w.heap.size, 0, none⟩ = some (.slice a1 l1.length cap1) ∧ w'.cell? ⟨w.heap.size, 1, none⟩ = some (.int .i64 s1) ∧ w'.cell? ⟨w.heap.size, 2, none⟩ = some (.int .i64 e1) ∧ w'.cell? ⟨w.heap.size, 3, none⟩ = some (.string n1)) (first | with_reducible exact HS.out _ kz | with_reducible exact HS.out _ (grow_on kz hy0) | with_reducible exact HS.out _ (grow_on (grow_on kz hy0) hy1) | with_reducible exact HS.out _ (grow_on (grow_on (grow_on kz hy0) hy1) hy2) | (go_keep; done)) (first | (go_at_call 8; with_reducible refine (Subs.toS_any a0 cap0 l0 _ (R0.out.below stays_rd (grow_on B15.out kz)) K0.out.1 K0.out.2.1).mono ?_; rintro e wy0 ⟨rfl, ⟨T0r, hA0, hP0⟩, hy0⟩) | (go_at_call 9; with_reducible refine (Alm.to_any a1 cap1 l1 s1 e1 n1 _ (R1.out.below (grow_on B15.out (grow_on kz hy0))) K1.out).mono ?_; rintro e wy1 ⟨⟨T1M, T1cs, rfl, -, hk1, -, hh1⟩, hy1⟩) | (go_at_call 10; refine (implAll_any _ _ l0 _ _ (⟨l1, s1, e1, n1⟩ : PAl) _ (RdU.rd ((rdU hA0 hP0).below stays_rn hy1)) (held_reads hk1 hh1) K0.out.1 N0.out K1.out).mono ?_; rintro e w16 ⟨⟨VM, Vr, rfl, hA, hP⟩, hy2⟩))
  have hb := (grow_on (grow_on (grow_on kz hy0) hy1) hy2)
  have V_16 : Hid (UB w15.heap.size w16 VM Vr.length Vr) := hA.down (grow_on (grow_on kz hy0) hy1).size
  have VP : Hid (sbs Vr = tellS l0 (⟨l1, s1, e1, n1⟩ : PAl)) := hP
  have VR : Hid (∀ k, blksU VM Vr k → w15.heap.size ≤ k ∧ k < w16.heap.size) := rngU V_16.out
  clear hA hP
  have B16 : Hid (Below w.heap.size w w16) := grow_on B15.out hb
  have Z16 : Hid (w15.heap.size ≤ w16.heap.size) := hb.size
  have P1_16 : Hid (Blk w16 w.heap.size #[.slice a1 l1.length cap1, .int .i64 s1, .int .i64 e1, .string n1] 25) := P1_15.out.grow hb
  have W_16 : Hid (UB w2.heap.size w16 WM Wc Wr) := W_15.out.grow hb
  have H_16 : Hid (MU w16 GM Gr 1 Gr.length) := H_15.out.grow hb
  clear hb kz HS hy0 hy1 hy2 kP1 cP10 cP11 cP12 cP13 hA0 hP0 hk1 hh1
  have cP10 : w16.cell? ⟨w.heap.size, 0, none⟩ = some (.slice a1 l1.length cap1) := (P1_16.out).cell 0
  have cP11 : w16.cell? ⟨w.heap.size, 1, none⟩ = some (.int .i64 s1) := (P1_16.out).cell 1
  have cP12 : w16.cell? ⟨w.heap.size, 2, none⟩ = some (.int .i64 e1) := (P1_16.out).cell 2
  have cP13 : w16.cell? ⟨w.heap.size, 3, none⟩ = some (.string n1) := (P1_16.out).cell 3
  go_wp2_with fail
  refine (eqL_any _ _ _ _ _ _ _ _ Vr Wr _ _ V_16.out W_16.out VP.out WP.out PL.out.1 PL.out.2.1).mono ?_
  rintro e w17 ⟨rfl, hb⟩
  have B17 : Hid (Below w.heap.size w w17) := grow_on B16.out hb
  have Z17 : Hid (w16.heap.size ≤ w17.heap.size) := hb.size
  have P1_17 : Hid (Blk w17 w.heap.size #[.slice a1 l1.length cap1, .int .i64 s1, .int .i64 e1, .string n1] 25) := P1_16.out.grow hb
  have W_17 : Hid (UB w2.heap.size w17 WM Wc Wr) := W_16.out.grow hb
  have H_17 : Hid (MU w17 GM Gr 1 Gr.length) := H_16.out.grow hb
  have V_17 : Hid (UB w15.heap.size w17 VM Vr.length Vr) := V_16.out.grow hb
  clear hb cP10 cP11 cP12 cP13
  have hq : ¬ ((1 + sumU Gr : Nat) : Int) < 0 := by omega
  have cP10 : w17.cell? ⟨w.heap.size, 0, none⟩ = some (.slice a1 l1.length cap1) := (P1_17.out).cell 0
  have cP11 : w17.cell? ⟨w.heap.size, 1, none⟩ = some (.int .i64 s1) := (P1_17.out).cell 1
  have cP12 : w17.cell? ⟨w.heap.size, 2, none⟩ = some (.int .i64 e1) := (P1_17.out).cell 2
  have cP13 : w17.cell? ⟨w.heap.size, 3, none⟩ = some (.string n1) := (P1_17.out).cell 3
  go_wp2_with fail
  refine (heldUS_any GM 1 Gr.length Gr _ H_17.out GL.out GS.out.2 (by omega) GS.out.1).mono ?_
  rintro e w18 ⟨rfl, hb⟩
  have B18 : Hid (Below w.heap.size w w18) := grow_on B17.out hb
  have Z18 : Hid (w17.heap.size ≤ w18.heap.size) := hb.size
  have P1_18 : Hid (Blk w18 w.heap.size #[.slice a1 l1.length cap1, .int .i64 s1, .int .i64 e1, .string n1] 25) := P1_17.out.grow hb
  have W_18 : Hid (UB w2.heap.size w18 WM Wc Wr) := W_17.out.grow hb
  have H_18 : Hid (MU w18 GM Gr 1 Gr.length) := H_17.out.grow hb
  have V_18 : Hid (UB w15.heap.size w18 VM Vr.length Vr) := V_17.out.grow hb
  clear hb cP10 cP11 cP12 cP13
  have cP10 : w18.cell? ⟨w.heap.size, 0, none⟩ = some (.slice a1 l1.length cap1) := (P1_18.out).cell 0
  have cP11 : w18.cell? ⟨w.heap.size, 1, none⟩ = some (.int .i64 s1) := (P1_18.out).cell 1
  have cP12 : w18.cell? ⟨w.heap.size, 2, none⟩ = some (.int .i64 e1) := (P1_18.out).cell 2
  have cP13 : w18.cell? ⟨w.heap.size, 3, none⟩ = some (.string n1) := (P1_18.out).cell 3
  go_wp2
  go_ret
  exact ⟨rfl, B18.out⟩
theorem own : ownKnob Try.prog.godebug = none := by kernel_rfl
theorem laidOut : laidOutB Try.prog = true := by kernel_rfl
set_option maxRecDepth 100000 in
theorem lifted (os : Os) (started : os.Started) (H : Type) (enc : TypeId × Value → H) :
    ReturnsInHanded {} Try.checked os 3 .any (Rows.fnExactTellAllSpec.pre6 enc Try.prog Try.f3 Rows.fnExactTellAllRow.domain false) (Rows.fnExactTellAllSpec.post enc Try.prog Try.f3 false true false false) := by
  refine returnsInHanded_of_change (C := Try.checked) own started (by kernel_rfl) Try.func3
    (ChangeSpec.witness6 (enc := enc) (C := Try.checked) false ⟨#[], #[.slice none 0 0, .agg #[.slice none 0 0, .int .i64 0, .int .i64 0, .string ⟨#[]⟩]], []⟩ 8 (by kernel_rfl) (by kernel_rfl) (by kernel_rfl) (by kernel_rfl)) ?_
  intro W base args ds gs before hval0 hW hcnd _
  have hval : ∀ (j : Nat) t v, Try.f3.params[j]? = some t → args[j]? = some v → Value.okWide Try.prog W .any base t v := hval0
  have hW' := hW
  obtain ⟨p, q, hA0, hV, rfl, hfz, hnd⟩ := hW
  have hA : DataW.TrodAll enc Try.prog W 0 (fun _ => true) true Try.f3.params.toList args.toList ds p := hA0
  rw [Try.params3] at hA hval
  obtain ⟨v0, vs0, d0, ds0, p0, q0, hargs, rfl, rfl, h0, r0⟩ := trodAll_cons hA
  obtain ⟨v1, vs1, d1, ds1, p1, q1, rfl, rfl, rfl, h1, r1⟩ := trodAll_cons r0
  obtain ⟨rfl, rfl, rfl⟩ := trodAll_nil r1
  obtain rfl : args = #[v0, v1] := by cases args; simp_all
  obtain ⟨rfl, rfl⟩ := trodVars_none hV
  obtain ⟨a0, len0, cap0, rfl⟩ := okWide_slice Try.underlying22 (hval 0 22 v0 rfl rfl)
  have k0 := h0
  have lt0 : ∀ x ∈ p0, x.block < W.heap.size := by obtain ⟨m, hm⟩ := k0; exact DataW.trod_lt m _ _ _ hm
  obtain ⟨l0, rfl, w0, m0, f0⟩ := Go.Proofs.Ytdmhccheaemkkab.Subs.open_subs h0
  have k1 := h1
  have lt1 : ∀ x ∈ p1, x.block < W.heap.size := by obtain ⟨m, hm⟩ := k1; exact DataW.trod_lt m _ _ _ hm
  obtain ⟨a1, cap1, l1, s1, e1, n1, rfl, w1⟩ := Go.Proofs.Ytdmhccheaemkkab.Alm.open_alarm (hval 1 25 v1 rfl rfl) h1
  clear hA0 hval0
  refine (walk a0 cap0 l0 a1 cap1 l1 s1 e1 n1 W w0 m0 f0 w1).mono fun e W' ⟨he, bel⟩ => ?_
  subst he
  exact ⟨_, rfl, _, _, _, [], _, [], hW', trodAll_mk1 (shut_bool Try.underlying4 _), (trodAll_cons_mk (Below.trod laidOut (by kernel_rfl) (of_decide_eq_true (by kernel_rfl)) k0 bel lt0) (trodAll_cons_mk (Below.trod laidOut (by kernel_rfl) (of_decide_eq_true (by kernel_rfl)) k1 bel lt1) trodAll_mk0)), rfl, bel.frame _, fun h => by cases h⟩

theorem over : Rows.fnExactTellAllRow.holds Try.pinned (OpenSpec.ofChange Rows.fnExactTellAllSpec) :=
  OpenClaim.holds_of_wide 3 Try.f3 rfl rfl rfl rfl rfl rfl rfl ⟨rfl, rfl, rfl, rfl, rfl⟩ rfl rfl rfl rfl rfl (by kernel_rfl) Try.func3 (by kernel_rfl)
    (of_decide_eq_true (by kernel_rfl)) (by unfold Func.isWrapper; first | (rw [if_pos (by decide +kernel)]; kernel_rfl) | (rw [if_neg (by decide +kernel)]; exact ⟨rfl, rfl⟩))
    (fun os started H enc _ => lifted os started H enc)

end Go.Proofs.Ytdmhccheaemkkab.FnExactTellAll
namespace Go.Proofs.Ytdmhccheaemkkab
theorem fnExactTellAll_holds : Rows.FnExactTellAllSaid := FnExactTellAll.over
#print axioms fnExactTellAll_holds
end Go.Proofs.Ytdmhccheaemkkab
