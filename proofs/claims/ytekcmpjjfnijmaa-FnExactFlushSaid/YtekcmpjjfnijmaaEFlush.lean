/-
  PROVED: at every group and every time impl.Flush answers as spec.Flush, leaves the group as it was, keeps nothing of it, and its answers lie in memory of their own, so the law laws.FnExactFlush returns true, whatever its arguments. No condition.
-/
import Derived.Test.YtekcmpjjfnijmaaRows
import Derived.WalkKit
import Derived.ProofKit
import Derived.OpenShut
import Derived.ShutString
import Derived.ChangeOld
import Derived.Below
import Derived.WalkLawsBesides
import Derived.WalkSpells
import Derived.Test.YtekcmpjjfnijmaaGrpI
import Derived.Test.YtekcmpjjfnijmaaGrpF
import Derived.Test.YtekcmpjjfnijmaaMark
import Derived.Deep.RegionHeld3
import Derived.Deep.DeepCutAuto
namespace Go.Proofs.Ytekcmpjjfnijmaa.FnExactFlush
open Go.ChangeShapes Go.WideShapes Go.ChangeAt Go.RowKit
open Go.ChangeMaps (open_string shut_string)
set_option linter.unusedVariables false

open Go.Proofs.Ytekcmpjjfnijmaa.Labs Go.Proofs.Ytekcmpjjfnijmaa.LabS Go.Proofs.Ytekcmpjjfnijmaa.Over Go.Proofs.Ytekcmpjjfnijmaa.Blk Go.Proofs.Ytekcmpjjfnijmaa.Alms Go.Proofs.Ytekcmpjjfnijmaa.Rws Go.Proofs.Ytekcmpjjfnijmaa.ChnC Go.Proofs.Ytekcmpjjfnijmaa.ChnK Go.Proofs.Ytekcmpjjfnijmaa.Grp
open Go.Proofs.Ytekcmpjjfnijmaa.GrpF
open Go.Proofs.Ytekcmpjjfnijmaa.Alm (AlIn)
open Go.Proofs.Ytekcmpjjfnijmaa.LabT (held_reads Fits)
theorem sum_filter (p : PAl → Bool) : ∀ P : List PAl, sumL (P.filter p) ≤ sumL P
  | [] => Nat.le_refl _
  | x :: P => by have := sum_filter p P; rw [List.filter_cons]; split <;> simp only [sumL] <;> omega
theorem left_sum {P L : List PAl} {now : Int} (h : leftTo P now P.length = L) : L.length ≤ P.length ∧ sumL L ≤ sumL P := by
  subst h
  refine ⟨left_le (Nat.le_refl _), ?_⟩
  unfold leftTo
  rw [List.take_length]
  exact sum_filter _ _
theorem left_fits {P L : List PAl} {now : Int} (h : leftTo P now P.length = L) (hz : FitsP P) : FitsP L := by
  subst h
  exact fits_of fun y hy => fits_mem hz (List.mem_of_mem_take (List.mem_filter.1 hy).1)
theorem marks_of {rs : List ARow} {P : List PAl} (h : pals rs = P) : sumA rs = 2 * sumL P + 3 * P.length := by
  have h2 : rs.length = P.length := by rw [← h, pals_len]
  rw [sumA_pals, h, h2]
theorem eqG_any (n b t : Int) (ka ka' : Option Addr) (kc kc' : Nat) (key : List Lab) (a a' : Option Addr) (c c' : Nat) (rs rs' : List ARow) (P : List PAl) (w : World) (hk : Reads w ka key) (hk' : Reads w ka' key) (hkl : key.length ≤ maxLen) (h : RdN w a (pals rs)) (h' : RdN w a' (pals rs')) (hp : pals rs = P) (hp' : pals rs' = P) (hl : P.length ≤ maxLen) (hz : FitsP P) :
    Calls Try.prog 35 #[.agg #[.int .i64 n, .slice ka key.length kc, .int .i64 b, .int .i64 t, .slice a rs.length c], .agg #[.int .i64 n, .slice ka' key.length kc', .int .i64 b, .int .i64 t, .slice a' rs'.length c']] w fun e w' => e = .returned (.bool true) ∧ Below w.heap.size w w' := by
  rw [hp] at h
  rw [hp'] at h'
  have e1 : rs.length = P.length := by rw [← hp, pals_len]
  have e2 : rs'.length = P.length := by rw [← hp', pals_len]
  rw [e1, e2]
  exact Grp.eqGroup_any n b t ka ka' kc kc' key a a' c c' P w hk hk' hkl h.rd h'.rd hl hz
theorem eqB_any (n b : Int) (ka ka' : Option Addr) (kc kc' : Nat) (key : List Lab) (a a' : Option Addr) (c c' : Nat) (rs rs' : List ARow) (P : List PAl) (w : World) (hk : Reads w ka key) (hk' : Reads w ka' key) (hkl : key.length ≤ maxLen) (h : RdN w a (pals rs)) (h' : RdN w a' (pals rs')) (hp : pals rs = P) (hp' : pals rs' = P) (hl : P.length ≤ maxLen) (hz : FitsP P) :
    Calls Try.prog 39 #[.agg #[.int .i64 n, .slice ka key.length kc, .int .i64 b, .slice a rs.length c], .agg #[.int .i64 n, .slice ka' key.length kc', .int .i64 b, .slice a' rs'.length c']] w fun e w' => e = .returned (.bool true) ∧ Below w.heap.size w w' := by
  rw [hp] at h
  rw [hp'] at h'
  have e1 : rs.length = P.length := by rw [← hp, pals_len]
  have e2 : rs'.length = P.length := by rw [← hp', pals_len]
  rw [e1, e2]
  exact Grp.eqBatch_any n b ka ka' kc kc' key a a' c c' P w hk hk' hkl h.rd h'.rd hl hz
theorem specF (n b t : Int) (gk ok kc : Nat) (key : List Lab) (a : Option Addr) (cap : Nat) (P FL : List PAl) (now : Int) (hF : leftTo P now P.length = FL) (w : World) (hk : Reads w (some ⟨gk, ok, none⟩) key) (hkl : key.length ≤ 1048576) (hr : RdN w a P) (hl : P.length ≤ 1048576) (hs : LenM P) :
    Calls Try.prog 14 #[.agg #[.int .i64 n, .slice (some ⟨gk, ok, none⟩) key.length kc, .int .i64 b, .int .i64 t, .slice a P.length cap], .int .i64 now] w fun e w' => (∃ Ke kd M c rs K2 kd2 M2 c2 rs2, e = .returned (.tuple #[.agg #[.int .i64 n, .slice (some ⟨Ke, 0, none⟩) key.length kd, .int .i64 b, .int .i64 now, .slice (some ⟨M, 0, none⟩) rs.length c], .agg #[.int .i64 n, .slice (some ⟨K2, 0, none⟩) key.length kd2, .int .i64 now, .slice (some ⟨M2, 0, none⟩) rs2.length c2]]) ∧ GB w.heap.size w' Ke key M 0 rs ∧ pals rs = FL ∧ GB w.heap.size w' K2 key M2 0 rs2 ∧ pals rs2 = P) ∧ Below w.heap.size w w' := by
  subst hF
  exact (specFlush_any n b t gk ok kc key a cap P now w hk hkl hr hl hs).mono fun e w' ⟨⟨Ke, kd, M, c, rs, K2, kd2, M2, c2, rs2, he, h1, _, h2, h3, _, h4⟩, hb⟩ => ⟨⟨Ke, kd, M, c, rs, K2, kd2, M2, c2, rs2, he, h1, h2, h3, h4⟩, hb⟩
theorem implF (n b t : Int) (gk ok kc : Nat) (key : List Lab) (a : Option Addr) (cap : Nat) (P FL : List PAl) (now : Int) (hF : leftTo P now P.length = FL) (w : World) (hk : Reads w (some ⟨gk, ok, none⟩) key) (hkl : key.length ≤ 1048576) (hr : RdN w a P) (hl : P.length ≤ 1048576) (hs : LenM P) :
    Calls Try.prog 13 #[.agg #[.int .i64 n, .slice (some ⟨gk, ok, none⟩) key.length kc, .int .i64 b, .int .i64 t, .slice a P.length cap], .int .i64 now] w fun e w' => (∃ Ke kd M o c rs K2 kd2 M2 o2 c2 rs2, e = .returned (.tuple #[.agg #[.int .i64 n, .slice (some ⟨Ke, 0, none⟩) key.length kd, .int .i64 b, .int .i64 now, .slice (some ⟨M, o, none⟩) rs.length c], .agg #[.int .i64 n, .slice (some ⟨K2, 0, none⟩) key.length kd2, .int .i64 now, .slice (some ⟨M2, o2, none⟩) rs2.length c2]]) ∧ GB w.heap.size w' Ke key M o rs ∧ pals rs = FL ∧ GB w.heap.size w' K2 key M2 o2 rs2 ∧ pals rs2 = P ∧ ∀ k, gblks Ke M rs k → ¬ gblks K2 M2 rs2 k) ∧ Below w.heap.size w w' := by
  subst hF
  exact GrpI.implFlush_any n b t gk ok kc key a cap P now w hk hkl hr hl hs
theorem rdP {lo : Nat} {w : World} {K M o : Nat} {key : List Lab} {rs : List ARow} {P : List PAl} (h : GB lo w K key M o rs) (hp : pals rs = P) : RdN w (some ⟨M, o, none⟩) P := by have := h.row.rd; rwa [hp] at this
theorem len_m {P : List PAl} (h : LenM P) : ChnI.LenP P := ChnP.len_m h
theorem len_of {rs : List ARow} {P : List PAl} (h : pals rs = P) : rs.length = P.length := by rw [← h, pals_len]
set_option maxRecDepth 100000 in
set_option maxHeartbeats 8000000 in
theorem walk (n0 b0 t0 : Int) (ka0 : Option Addr) (kc0 : Nat) (key0 : List Lab) (a0 : Option Addr) (cap0 : Nat) (l0 : List PAl) (a1 : Int) (w : World) (u0 : Reads w ka0 key0) (q0 : key0.length ≤ maxLen) (y0 : Fits key0) (r0 : RdA w a0 l0) (m0 : l0.length ≤ maxLen) (z0 : FitsP l0) (_v1 : (Lit.int .i64 a1).wf = true) :
    Calls Try.prog 8 #[.agg #[.int .i64 n0, .slice ka0 key0.length kc0, .int .i64 b0, .int .i64 t0, .slice a0 l0.length cap0], .int .i64 a1] w fun e w' => e = .returned (.bool true) ∧ Below w.heap.size w w' := by
  have U0 : Hid (Reads w ka0 key0) := u0
  have Q0k : Hid (key0.length ≤ maxLen ∧ Fits key0) := ⟨q0, y0⟩
  have R0 : Hid (RdA w a0 l0) := r0
  have M0 : Hid (l0.length ≤ maxLen) := m0
  have F0 : Hid (FitsP l0) := z0
  clear u0 q0 y0 r0 m0 z0
  have B0 : Hid (Below w.heap.size w w) := Below.refl _ _
  go_enter Try.func8, Try.ntmps8
  go_wp2_with fail
  refine (Grp.szGroup_any n0 b0 t0 ka0 kc0 key0 a0 cap0 l0 1048576 _ (U0.out.below (grow_on B0.out (Go.Joins.below_alloc1 w _))) Q0k.out.1 Q0k.out.2 (R0.out.below (grow_on B0.out (Go.Joins.below_alloc1 w _))) M0.out F0.out (by omega) (by omega)).mono ?_
  rintro e w1 ⟨⟨k0, rfl, p0, hn⟩, hb⟩
  have P0_1 : Hid (Blk w1 w.heap.size #[.int .i64 n0, .slice ka0 key0.length kc0, .int .i64 b0, .int .i64 t0, .slice a0 l0.length cap0] 58) := (Blk.new _ _ _).grow hb
  have U_P0 : Hid (w.heap.size ≤ w.heap.size ∧ w.heap.size < w1.heap.size) := ⟨by omega, P0_1.out.lt⟩
  replace hb := grow_on (Go.Joins.below_alloc1 w _) hb
  have B1 : Hid (Below w.heap.size w w1) := grow_on B0.out hb
  have Z1 : Hid (w.heap.size ≤ w1.heap.size) := hb.size
  clear hb
  by_cases g0 : k0 < 0
  · clear hn
    go_wp2
    go_ret
    exact ⟨rfl, B1.out⟩
  have K0 : Hid (key0.length ≤ 1048576 ∧ l0.length ≤ 1048576 ∧ sumL l0 ≤ 1048576 ∧ key0.length + l0.length + sumL l0 ≤ 1048576) := by have := hn (by omega); exact ⟨by omega, by omega, by omega, by omega⟩
  have N0 : Hid (LenM l0) := fun q hq => Nat.le_trans (sum_nth hq) K0.out.2.2.1
  clear hn
  obtain ⟨FL, hF⟩ : ∃ FL, leftTo l0 a1 l0.length = FL := ⟨_, rfl⟩
  have HF : Hid (leftTo l0 a1 l0.length = FL) := hF
  have hq := left_sum hF
  have PF : Hid (FL.length ≤ maxLen ∧ FitsP FL) := ⟨by have := M0.out; exact Nat.le_trans hq.1 this, left_fits hF F0.out⟩
  have PS : Hid (FL.length ≤ l0.length ∧ sumL FL ≤ sumL l0) := hq
  clear hq hF
  have cP00 : w1.cell? ⟨w.heap.size, 0, none⟩ = some (.int .i64 n0) := (P0_1.out).cell 0
  have cP01 : w1.cell? ⟨w.heap.size, 1, none⟩ = some (.slice ka0 key0.length kc0) := (P0_1.out).cell 1
  have cP02 : w1.cell? ⟨w.heap.size, 2, none⟩ = some (.int .i64 b0) := (P0_1.out).cell 2
  have cP03 : w1.cell? ⟨w.heap.size, 3, none⟩ = some (.int .i64 t0) := (P0_1.out).cell 3
  have cP04 : w1.cell? ⟨w.heap.size, 4, none⟩ = some (.slice a0 l0.length cap0) := (P0_1.out).cell 4
  go_wp2_with fail
  refine (Grp.toGroup_any n0 b0 t0 ka0 kc0 key0 a0 cap0 l0 _ (U0.out.below B1.out) K0.out.1 (R0.out.below B1.out) K0.out.2.1 K0.out.2.2.1).mono ?_
  rintro e w2 ⟨⟨SK, SM, Sr, rfl, hG, hA, hP⟩, hb⟩
  have S_2 : Hid (GB w1.heap.size w2 SK key0 SM 0 Sr) := hG.down (by first | omega | (simp; omega))
  have SP : Hid (pals Sr = l0) := hP
  have SR : Hid (∀ k, gblks SK SM Sr k → w1.heap.size + 2 < k ∧ k < w2.heap.size) := fun k hk => by have := hG.rng k hk; (try simp at this); omega
  have SL : Hid (∀ x ∈ Sr, x.2.2.l.length ≤ 1048576) := hG.len
  clear hG hA hP
  have B2 : Hid (Below w.heap.size w w2) := grow_on B1.out hb
  have Z2 : Hid (w1.heap.size ≤ w2.heap.size) := hb.size
  have P0_2 : Hid (Blk w2 w.heap.size #[.int .i64 n0, .slice ka0 key0.length kc0, .int .i64 b0, .int .i64 t0, .slice a0 l0.length cap0] 58) := P0_1.out.grow hb
  clear hb cP00 cP01 cP02 cP03 cP04
  have cP00 : w2.cell? ⟨w.heap.size, 0, none⟩ = some (.int .i64 n0) := (P0_2.out).cell 0
  have cP01 : w2.cell? ⟨w.heap.size, 1, none⟩ = some (.slice ka0 key0.length kc0) := (P0_2.out).cell 1
  have cP02 : w2.cell? ⟨w.heap.size, 2, none⟩ = some (.int .i64 b0) := (P0_2.out).cell 2
  have cP03 : w2.cell? ⟨w.heap.size, 3, none⟩ = some (.int .i64 t0) := (P0_2.out).cell 3
  have cP04 : w2.cell? ⟨w.heap.size, 4, none⟩ = some (.slice a0 l0.length cap0) := (P0_2.out).cell 4
  go_wp2_with fail
  refine (specF n0 b0 t0 _ _ _ key0 _ _ l0 FL a1 HF.out _ (S_2.out.key.rd) K0.out.1 ((rdP S_2.out SP.out)) K0.out.2.1 N0.out).mono ?_
  rintro e w3 ⟨⟨WK, Wd, WM, Wc, Wr, WK2, Wd2, WM2, Wc2, Wr2, rfl, hG, hP, hG2, hP2⟩, hb⟩
  have W_3 : Hid (GB w2.heap.size w3 WK key0 WM 0 Wr) := hG.down (by first | exact Nat.le_refl _ | simp)
  have W2_3 : Hid (GB w2.heap.size w3 WK2 key0 WM2 0 Wr2) := hG2.down (by first | exact Nat.le_refl _ | simp)
  have WP : Hid (pals Wr = FL) := hP
  have W2P : Hid (pals Wr2 = l0) := hP2
  have WR : Hid (∀ k, gblks WK WM Wr k → w2.heap.size ≤ k ∧ k < w3.heap.size) := fun k hk => by have := hG.rng k hk; (try simp at this); omega
  have W2R : Hid (∀ k, gblks WK2 WM2 Wr2 k → w2.heap.size ≤ k ∧ k < w3.heap.size) := fun k hk => by have := hG2.rng k hk; (try simp at this); omega
  have WL : Hid (∀ x ∈ Wr, x.2.2.l.length ≤ 1048576) := hG.len
  have W2L : Hid (∀ x ∈ Wr2, x.2.2.l.length ≤ 1048576) := hG2.len
  clear hG hP hG2 hP2
  have B3 : Hid (Below w.heap.size w w3) := grow_on B2.out hb
  have Z3 : Hid (w2.heap.size ≤ w3.heap.size) := hb.size
  have P0_3 : Hid (Blk w3 w.heap.size #[.int .i64 n0, .slice ka0 key0.length kc0, .int .i64 b0, .int .i64 t0, .slice a0 l0.length cap0] 58) := P0_2.out.grow hb
  have S_3 : Hid (GB w1.heap.size w3 SK key0 SM 0 Sr) := S_2.out.grow hb
  clear hb cP00 cP01 cP02 cP03 cP04
  have cP00 : ((w3.alloc (.cells #[.int .i64 n0, .slice (some ⟨WK, 0, none⟩) key0.length Wd, .int .i64 b0, .int .i64 a1, .slice (some ⟨WM, 0, none⟩) Wr.length Wc] 27)).alloc (.cells #[.int .i64 n0, .slice (some ⟨WK2, 0, none⟩) key0.length Wd2, .int .i64 a1, .slice (some ⟨WM2, 0, none⟩) Wr2.length Wc2] 36)).cell? ⟨w.heap.size, 0, none⟩ = some (.int .i64 n0) := (((P0_3.out.alloc _).alloc _)).cell 0
  have cP01 : ((w3.alloc (.cells #[.int .i64 n0, .slice (some ⟨WK, 0, none⟩) key0.length Wd, .int .i64 b0, .int .i64 a1, .slice (some ⟨WM, 0, none⟩) Wr.length Wc] 27)).alloc (.cells #[.int .i64 n0, .slice (some ⟨WK2, 0, none⟩) key0.length Wd2, .int .i64 a1, .slice (some ⟨WM2, 0, none⟩) Wr2.length Wc2] 36)).cell? ⟨w.heap.size, 1, none⟩ = some (.slice ka0 key0.length kc0) := (((P0_3.out.alloc _).alloc _)).cell 1
  have cP02 : ((w3.alloc (.cells #[.int .i64 n0, .slice (some ⟨WK, 0, none⟩) key0.length Wd, .int .i64 b0, .int .i64 a1, .slice (some ⟨WM, 0, none⟩) Wr.length Wc] 27)).alloc (.cells #[.int .i64 n0, .slice (some ⟨WK2, 0, none⟩) key0.length Wd2, .int .i64 a1, .slice (some ⟨WM2, 0, none⟩) Wr2.length Wc2] 36)).cell? ⟨w.heap.size, 2, none⟩ = some (.int .i64 b0) := (((P0_3.out.alloc _).alloc _)).cell 2
  have cP03 : ((w3.alloc (.cells #[.int .i64 n0, .slice (some ⟨WK, 0, none⟩) key0.length Wd, .int .i64 b0, .int .i64 a1, .slice (some ⟨WM, 0, none⟩) Wr.length Wc] 27)).alloc (.cells #[.int .i64 n0, .slice (some ⟨WK2, 0, none⟩) key0.length Wd2, .int .i64 a1, .slice (some ⟨WM2, 0, none⟩) Wr2.length Wc2] 36)).cell? ⟨w.heap.size, 3, none⟩ = some (.int .i64 t0) := (((P0_3.out.alloc _).alloc _)).cell 3
  have cP04 : ((w3.alloc (.cells #[.int .i64 n0, .slice (some ⟨WK, 0, none⟩) key0.length Wd, .int .i64 b0, .int .i64 a1, .slice (some ⟨WM, 0, none⟩) Wr.length Wc] 27)).alloc (.cells #[.int .i64 n0, .slice (some ⟨WK2, 0, none⟩) key0.length Wd2, .int .i64 a1, .slice (some ⟨WM2, 0, none⟩) Wr2.length Wc2] 36)).cell? ⟨w.heap.size, 4, none⟩ = some (.slice a0 l0.length cap0) := (((P0_3.out.alloc _).alloc _)).cell 4
  go_wp2_with fail
  refine (Grp.toGroup_any n0 b0 t0 ka0 kc0 key0 a0 cap0 l0 _ (U0.out.below (grow_on B3.out (Go.Joins.below_alloc2 w3 _ _))) K0.out.1 (R0.out.below (grow_on B3.out (Go.Joins.below_alloc2 w3 _ _))) K0.out.2.1 K0.out.2.2.1).mono ?_
  rintro e w4 ⟨⟨XK, XM, Xr, rfl, hG, hA, hP⟩, hb⟩
  have X_4 : Hid (GB w3.heap.size w4 XK key0 XM 0 Xr) := hG.down (by first | omega | (simp; omega))
  have XP : Hid (pals Xr = l0) := hP
  have XR : Hid (∀ k, gblks XK XM Xr k → w3.heap.size + 3 < k ∧ k < w4.heap.size) := fun k hk => by have := hG.rng k hk; (try simp at this); omega
  have XL : Hid (∀ x ∈ Xr, x.2.2.l.length ≤ 1048576) := hG.len
  clear hG hA hP
  have Wx_4 : Hid (Blk w4 w3.heap.size #[.int .i64 n0, .slice (some ⟨WK, 0, none⟩) key0.length Wd, .int .i64 b0, .int .i64 a1, .slice (some ⟨WM, 0, none⟩) Wr.length Wc] 27) := ((Blk.new _ _ _).alloc _).grow hb
  have U_Wx : Hid (w3.heap.size ≤ w3.heap.size ∧ w3.heap.size < w4.heap.size) := ⟨by omega, Wx_4.out.lt⟩
  have Wy_4 : Hid (Blk w4 (w3.heap.size + 1) #[.int .i64 n0, .slice (some ⟨WK2, 0, none⟩) key0.length Wd2, .int .i64 a1, .slice (some ⟨WM2, 0, none⟩) Wr2.length Wc2] 36) := (Blk.new_at (by simp)).grow hb
  have U_Wy : Hid (w3.heap.size ≤ (w3.heap.size + 1) ∧ (w3.heap.size + 1) < w4.heap.size) := ⟨by omega, Wy_4.out.lt⟩
  replace hb := grow_on (Go.Joins.below_alloc2 w3 _ _) hb
  have B4 : Hid (Below w.heap.size w w4) := grow_on B3.out hb
  have Z4 : Hid (w3.heap.size ≤ w4.heap.size) := hb.size
  have P0_4 : Hid (Blk w4 w.heap.size #[.int .i64 n0, .slice ka0 key0.length kc0, .int .i64 b0, .int .i64 t0, .slice a0 l0.length cap0] 58) := P0_3.out.grow hb
  have W_4 : Hid (GB w2.heap.size w4 WK key0 WM 0 Wr) := W_3.out.grow hb
  have W2_4 : Hid (GB w2.heap.size w4 WK2 key0 WM2 0 Wr2) := W2_3.out.grow hb
  clear hb cP00 cP01 cP02 cP03 cP04
  have cP00 : (w4.alloc (.cells #[.int .i64 n0, .slice (some ⟨XK, 0, none⟩) key0.length key0.length, .int .i64 b0, .int .i64 t0, .slice (some ⟨XM, 0, none⟩) l0.length l0.length] 27)).cell? ⟨w.heap.size, 0, none⟩ = some (.int .i64 n0) := ((P0_4.out.alloc _)).cell 0
  have cP01 : (w4.alloc (.cells #[.int .i64 n0, .slice (some ⟨XK, 0, none⟩) key0.length key0.length, .int .i64 b0, .int .i64 t0, .slice (some ⟨XM, 0, none⟩) l0.length l0.length] 27)).cell? ⟨w.heap.size, 1, none⟩ = some (.slice ka0 key0.length kc0) := ((P0_4.out.alloc _)).cell 1
  have cP02 : (w4.alloc (.cells #[.int .i64 n0, .slice (some ⟨XK, 0, none⟩) key0.length key0.length, .int .i64 b0, .int .i64 t0, .slice (some ⟨XM, 0, none⟩) l0.length l0.length] 27)).cell? ⟨w.heap.size, 2, none⟩ = some (.int .i64 b0) := ((P0_4.out.alloc _)).cell 2
  have cP03 : (w4.alloc (.cells #[.int .i64 n0, .slice (some ⟨XK, 0, none⟩) key0.length key0.length, .int .i64 b0, .int .i64 t0, .slice (some ⟨XM, 0, none⟩) l0.length l0.length] 27)).cell? ⟨w.heap.size, 3, none⟩ = some (.int .i64 t0) := ((P0_4.out.alloc _)).cell 3
  have cP04 : (w4.alloc (.cells #[.int .i64 n0, .slice (some ⟨XK, 0, none⟩) key0.length key0.length, .int .i64 b0, .int .i64 t0, .slice (some ⟨XM, 0, none⟩) l0.length l0.length] 27)).cell? ⟨w.heap.size, 4, none⟩ = some (.slice a0 l0.length cap0) := ((P0_4.out.alloc _)).cell 4
  have cWx0 : (w4.alloc (.cells #[.int .i64 n0, .slice (some ⟨XK, 0, none⟩) key0.length key0.length, .int .i64 b0, .int .i64 t0, .slice (some ⟨XM, 0, none⟩) l0.length l0.length] 27)).cell? ⟨w3.heap.size, 0, none⟩ = some (.int .i64 n0) := ((Wx_4.out.alloc _)).cell 0
  have cWx1 : (w4.alloc (.cells #[.int .i64 n0, .slice (some ⟨XK, 0, none⟩) key0.length key0.length, .int .i64 b0, .int .i64 t0, .slice (some ⟨XM, 0, none⟩) l0.length l0.length] 27)).cell? ⟨w3.heap.size, 1, none⟩ = some (.slice (some ⟨WK, 0, none⟩) key0.length Wd) := ((Wx_4.out.alloc _)).cell 1
  have cWx2 : (w4.alloc (.cells #[.int .i64 n0, .slice (some ⟨XK, 0, none⟩) key0.length key0.length, .int .i64 b0, .int .i64 t0, .slice (some ⟨XM, 0, none⟩) l0.length l0.length] 27)).cell? ⟨w3.heap.size, 2, none⟩ = some (.int .i64 b0) := ((Wx_4.out.alloc _)).cell 2
  have cWx3 : (w4.alloc (.cells #[.int .i64 n0, .slice (some ⟨XK, 0, none⟩) key0.length key0.length, .int .i64 b0, .int .i64 t0, .slice (some ⟨XM, 0, none⟩) l0.length l0.length] 27)).cell? ⟨w3.heap.size, 3, none⟩ = some (.int .i64 a1) := ((Wx_4.out.alloc _)).cell 3
  have cWx4 : (w4.alloc (.cells #[.int .i64 n0, .slice (some ⟨XK, 0, none⟩) key0.length key0.length, .int .i64 b0, .int .i64 t0, .slice (some ⟨XM, 0, none⟩) l0.length l0.length] 27)).cell? ⟨w3.heap.size, 4, none⟩ = some (.slice (some ⟨WM, 0, none⟩) Wr.length Wc) := ((Wx_4.out.alloc _)).cell 4
  have cWy0 : (w4.alloc (.cells #[.int .i64 n0, .slice (some ⟨XK, 0, none⟩) key0.length key0.length, .int .i64 b0, .int .i64 t0, .slice (some ⟨XM, 0, none⟩) l0.length l0.length] 27)).cell? ⟨(w3.heap.size + 1), 0, none⟩ = some (.int .i64 n0) := ((Wy_4.out.alloc _)).cell 0
  have cWy1 : (w4.alloc (.cells #[.int .i64 n0, .slice (some ⟨XK, 0, none⟩) key0.length key0.length, .int .i64 b0, .int .i64 t0, .slice (some ⟨XM, 0, none⟩) l0.length l0.length] 27)).cell? ⟨(w3.heap.size + 1), 1, none⟩ = some (.slice (some ⟨WK2, 0, none⟩) key0.length Wd2) := ((Wy_4.out.alloc _)).cell 1
  have cWy2 : (w4.alloc (.cells #[.int .i64 n0, .slice (some ⟨XK, 0, none⟩) key0.length key0.length, .int .i64 b0, .int .i64 t0, .slice (some ⟨XM, 0, none⟩) l0.length l0.length] 27)).cell? ⟨(w3.heap.size + 1), 2, none⟩ = some (.int .i64 a1) := ((Wy_4.out.alloc _)).cell 2
  have cWy3 : (w4.alloc (.cells #[.int .i64 n0, .slice (some ⟨XK, 0, none⟩) key0.length key0.length, .int .i64 b0, .int .i64 t0, .slice (some ⟨XM, 0, none⟩) l0.length l0.length] 27)).cell? ⟨(w3.heap.size + 1), 3, none⟩ = some (.slice (some ⟨WM2, 0, none⟩) Wr2.length Wc2) := ((Wy_4.out.alloc _)).cell 3
  go_wp2_with fail
  refine (implF n0 b0 t0 _ _ _ key0 _ _ l0 FL a1 HF.out _ (X_4.out.key.rd.below (Go.Joins.below_alloc1 w4 _)) K0.out.1 ((rdP X_4.out XP.out).below (Go.Joins.below_alloc1 w4 _)) K0.out.2.1 N0.out).mono ?_
  rintro e w5 ⟨⟨GK, Gd, GM, Gf, Gc, Gr, GK2, Gd2, GM2, Gf2, Gc2, Gr2, rfl, hG, hP, hG2, hP2, hD⟩, hb⟩
  have G_5 : Hid (GB w4.heap.size w5 GK key0 GM Gf Gr) := hG.down (by first | exact Nat.le_refl _ | simp)
  have G2_5 : Hid (GB w4.heap.size w5 GK2 key0 GM2 Gf2 Gr2) := hG2.down (by first | exact Nat.le_refl _ | simp)
  have GP : Hid (pals Gr = FL) := hP
  have G2P : Hid (pals Gr2 = l0) := hP2
  have GR : Hid (∀ k, gblks GK GM Gr k → w4.heap.size < k ∧ k < w5.heap.size) := fun k hk => by have := hG.rng k hk; (try simp at this); omega
  have G2R : Hid (∀ k, gblks GK2 GM2 Gr2 k → w4.heap.size < k ∧ k < w5.heap.size) := fun k hk => by have := hG2.rng k hk; (try simp at this); omega
  have GL : Hid (∀ x ∈ Gr, x.2.2.l.length ≤ 1048576) := hG.len
  have G2L : Hid (∀ x ∈ Gr2, x.2.2.l.length ≤ 1048576) := hG2.len
  have GD : Hid (∀ k, gblks GK GM Gr k → ¬ gblks GK2 GM2 Gr2 k) := hD
  clear hD
  clear hG hP hG2 hP2
  have Q0_5 : Hid (Blk w5 w4.heap.size #[.int .i64 n0, .slice (some ⟨XK, 0, none⟩) key0.length key0.length, .int .i64 b0, .int .i64 t0, .slice (some ⟨XM, 0, none⟩) l0.length l0.length] 27) := (Blk.new _ _ _).grow hb
  have U_Q0 : Hid (w4.heap.size ≤ w4.heap.size ∧ w4.heap.size < w5.heap.size) := ⟨by omega, Q0_5.out.lt⟩
  replace hb := grow_on (Go.Joins.below_alloc1 w4 _) hb
  have B5 : Hid (Below w.heap.size w w5) := grow_on B4.out hb
  have Z5 : Hid (w4.heap.size ≤ w5.heap.size) := hb.size
  have P0_5 : Hid (Blk w5 w.heap.size #[.int .i64 n0, .slice ka0 key0.length kc0, .int .i64 b0, .int .i64 t0, .slice a0 l0.length cap0] 58) := P0_4.out.grow hb
  have W_5 : Hid (GB w2.heap.size w5 WK key0 WM 0 Wr) := W_4.out.grow hb
  have W2_5 : Hid (GB w2.heap.size w5 WK2 key0 WM2 0 Wr2) := W2_4.out.grow hb
  have Wx_5 : Hid (Blk w5 w3.heap.size #[.int .i64 n0, .slice (some ⟨WK, 0, none⟩) key0.length Wd, .int .i64 b0, .int .i64 a1, .slice (some ⟨WM, 0, none⟩) Wr.length Wc] 27) := Wx_4.out.grow hb
  have Wy_5 : Hid (Blk w5 (w3.heap.size + 1) #[.int .i64 n0, .slice (some ⟨WK2, 0, none⟩) key0.length Wd2, .int .i64 a1, .slice (some ⟨WM2, 0, none⟩) Wr2.length Wc2] 36) := Wy_4.out.grow hb
  have X_5 : Hid (GB w3.heap.size w5 XK key0 XM 0 Xr) := X_4.out.grow hb
  clear hb cP00 cP01 cP02 cP03 cP04 cWx0 cWx1 cWx2 cWx3 cWx4 cWy0 cWy1 cWy2 cWy3
  have cP00 : ((w5.alloc (.cells #[.int .i64 n0, .slice (some ⟨GK, 0, none⟩) key0.length Gd, .int .i64 b0, .int .i64 a1, .slice (some ⟨GM, Gf, none⟩) Gr.length Gc] 27)).alloc (.cells #[.int .i64 n0, .slice (some ⟨GK2, 0, none⟩) key0.length Gd2, .int .i64 a1, .slice (some ⟨GM2, Gf2, none⟩) Gr2.length Gc2] 36)).cell? ⟨w.heap.size, 0, none⟩ = some (.int .i64 n0) := (((P0_5.out.alloc _).alloc _)).cell 0
  have cP01 : ((w5.alloc (.cells #[.int .i64 n0, .slice (some ⟨GK, 0, none⟩) key0.length Gd, .int .i64 b0, .int .i64 a1, .slice (some ⟨GM, Gf, none⟩) Gr.length Gc] 27)).alloc (.cells #[.int .i64 n0, .slice (some ⟨GK2, 0, none⟩) key0.length Gd2, .int .i64 a1, .slice (some ⟨GM2, Gf2, none⟩) Gr2.length Gc2] 36)).cell? ⟨w.heap.size, 1, none⟩ = some (.slice ka0 key0.length kc0) := (((P0_5.out.alloc _).alloc _)).cell 1
  have cP02 : ((w5.alloc (.cells #[.int .i64 n0, .slice (some ⟨GK, 0, none⟩) key0.length Gd, .int .i64 b0, .int .i64 a1, .slice (some ⟨GM, Gf, none⟩) Gr.length Gc] 27)).alloc (.cells #[.int .i64 n0, .slice (some ⟨GK2, 0, none⟩) key0.length Gd2, .int .i64 a1, .slice (some ⟨GM2, Gf2, none⟩) Gr2.length Gc2] 36)).cell? ⟨w.heap.size, 2, none⟩ = some (.int .i64 b0) := (((P0_5.out.alloc _).alloc _)).cell 2
  have cP03 : ((w5.alloc (.cells #[.int .i64 n0, .slice (some ⟨GK, 0, none⟩) key0.length Gd, .int .i64 b0, .int .i64 a1, .slice (some ⟨GM, Gf, none⟩) Gr.length Gc] 27)).alloc (.cells #[.int .i64 n0, .slice (some ⟨GK2, 0, none⟩) key0.length Gd2, .int .i64 a1, .slice (some ⟨GM2, Gf2, none⟩) Gr2.length Gc2] 36)).cell? ⟨w.heap.size, 3, none⟩ = some (.int .i64 t0) := (((P0_5.out.alloc _).alloc _)).cell 3
  have cP04 : ((w5.alloc (.cells #[.int .i64 n0, .slice (some ⟨GK, 0, none⟩) key0.length Gd, .int .i64 b0, .int .i64 a1, .slice (some ⟨GM, Gf, none⟩) Gr.length Gc] 27)).alloc (.cells #[.int .i64 n0, .slice (some ⟨GK2, 0, none⟩) key0.length Gd2, .int .i64 a1, .slice (some ⟨GM2, Gf2, none⟩) Gr2.length Gc2] 36)).cell? ⟨w.heap.size, 4, none⟩ = some (.slice a0 l0.length cap0) := (((P0_5.out.alloc _).alloc _)).cell 4
  have cWx0 : ((w5.alloc (.cells #[.int .i64 n0, .slice (some ⟨GK, 0, none⟩) key0.length Gd, .int .i64 b0, .int .i64 a1, .slice (some ⟨GM, Gf, none⟩) Gr.length Gc] 27)).alloc (.cells #[.int .i64 n0, .slice (some ⟨GK2, 0, none⟩) key0.length Gd2, .int .i64 a1, .slice (some ⟨GM2, Gf2, none⟩) Gr2.length Gc2] 36)).cell? ⟨w3.heap.size, 0, none⟩ = some (.int .i64 n0) := (((Wx_5.out.alloc _).alloc _)).cell 0
  have cWx1 : ((w5.alloc (.cells #[.int .i64 n0, .slice (some ⟨GK, 0, none⟩) key0.length Gd, .int .i64 b0, .int .i64 a1, .slice (some ⟨GM, Gf, none⟩) Gr.length Gc] 27)).alloc (.cells #[.int .i64 n0, .slice (some ⟨GK2, 0, none⟩) key0.length Gd2, .int .i64 a1, .slice (some ⟨GM2, Gf2, none⟩) Gr2.length Gc2] 36)).cell? ⟨w3.heap.size, 1, none⟩ = some (.slice (some ⟨WK, 0, none⟩) key0.length Wd) := (((Wx_5.out.alloc _).alloc _)).cell 1
  have cWx2 : ((w5.alloc (.cells #[.int .i64 n0, .slice (some ⟨GK, 0, none⟩) key0.length Gd, .int .i64 b0, .int .i64 a1, .slice (some ⟨GM, Gf, none⟩) Gr.length Gc] 27)).alloc (.cells #[.int .i64 n0, .slice (some ⟨GK2, 0, none⟩) key0.length Gd2, .int .i64 a1, .slice (some ⟨GM2, Gf2, none⟩) Gr2.length Gc2] 36)).cell? ⟨w3.heap.size, 2, none⟩ = some (.int .i64 b0) := (((Wx_5.out.alloc _).alloc _)).cell 2
  have cWx3 : ((w5.alloc (.cells #[.int .i64 n0, .slice (some ⟨GK, 0, none⟩) key0.length Gd, .int .i64 b0, .int .i64 a1, .slice (some ⟨GM, Gf, none⟩) Gr.length Gc] 27)).alloc (.cells #[.int .i64 n0, .slice (some ⟨GK2, 0, none⟩) key0.length Gd2, .int .i64 a1, .slice (some ⟨GM2, Gf2, none⟩) Gr2.length Gc2] 36)).cell? ⟨w3.heap.size, 3, none⟩ = some (.int .i64 a1) := (((Wx_5.out.alloc _).alloc _)).cell 3
  have cWx4 : ((w5.alloc (.cells #[.int .i64 n0, .slice (some ⟨GK, 0, none⟩) key0.length Gd, .int .i64 b0, .int .i64 a1, .slice (some ⟨GM, Gf, none⟩) Gr.length Gc] 27)).alloc (.cells #[.int .i64 n0, .slice (some ⟨GK2, 0, none⟩) key0.length Gd2, .int .i64 a1, .slice (some ⟨GM2, Gf2, none⟩) Gr2.length Gc2] 36)).cell? ⟨w3.heap.size, 4, none⟩ = some (.slice (some ⟨WM, 0, none⟩) Wr.length Wc) := (((Wx_5.out.alloc _).alloc _)).cell 4
  have cWy0 : ((w5.alloc (.cells #[.int .i64 n0, .slice (some ⟨GK, 0, none⟩) key0.length Gd, .int .i64 b0, .int .i64 a1, .slice (some ⟨GM, Gf, none⟩) Gr.length Gc] 27)).alloc (.cells #[.int .i64 n0, .slice (some ⟨GK2, 0, none⟩) key0.length Gd2, .int .i64 a1, .slice (some ⟨GM2, Gf2, none⟩) Gr2.length Gc2] 36)).cell? ⟨(w3.heap.size + 1), 0, none⟩ = some (.int .i64 n0) := (((Wy_5.out.alloc _).alloc _)).cell 0
  have cWy1 : ((w5.alloc (.cells #[.int .i64 n0, .slice (some ⟨GK, 0, none⟩) key0.length Gd, .int .i64 b0, .int .i64 a1, .slice (some ⟨GM, Gf, none⟩) Gr.length Gc] 27)).alloc (.cells #[.int .i64 n0, .slice (some ⟨GK2, 0, none⟩) key0.length Gd2, .int .i64 a1, .slice (some ⟨GM2, Gf2, none⟩) Gr2.length Gc2] 36)).cell? ⟨(w3.heap.size + 1), 1, none⟩ = some (.slice (some ⟨WK2, 0, none⟩) key0.length Wd2) := (((Wy_5.out.alloc _).alloc _)).cell 1
  have cWy2 : ((w5.alloc (.cells #[.int .i64 n0, .slice (some ⟨GK, 0, none⟩) key0.length Gd, .int .i64 b0, .int .i64 a1, .slice (some ⟨GM, Gf, none⟩) Gr.length Gc] 27)).alloc (.cells #[.int .i64 n0, .slice (some ⟨GK2, 0, none⟩) key0.length Gd2, .int .i64 a1, .slice (some ⟨GM2, Gf2, none⟩) Gr2.length Gc2] 36)).cell? ⟨(w3.heap.size + 1), 2, none⟩ = some (.int .i64 a1) := (((Wy_5.out.alloc _).alloc _)).cell 2
  have cWy3 : ((w5.alloc (.cells #[.int .i64 n0, .slice (some ⟨GK, 0, none⟩) key0.length Gd, .int .i64 b0, .int .i64 a1, .slice (some ⟨GM, Gf, none⟩) Gr.length Gc] 27)).alloc (.cells #[.int .i64 n0, .slice (some ⟨GK2, 0, none⟩) key0.length Gd2, .int .i64 a1, .slice (some ⟨GM2, Gf2, none⟩) Gr2.length Gc2] 36)).cell? ⟨(w3.heap.size + 1), 3, none⟩ = some (.slice (some ⟨WM2, 0, none⟩) Wr2.length Wc2) := (((Wy_5.out.alloc _).alloc _)).cell 3
  have cQ00 : ((w5.alloc (.cells #[.int .i64 n0, .slice (some ⟨GK, 0, none⟩) key0.length Gd, .int .i64 b0, .int .i64 a1, .slice (some ⟨GM, Gf, none⟩) Gr.length Gc] 27)).alloc (.cells #[.int .i64 n0, .slice (some ⟨GK2, 0, none⟩) key0.length Gd2, .int .i64 a1, .slice (some ⟨GM2, Gf2, none⟩) Gr2.length Gc2] 36)).cell? ⟨w4.heap.size, 0, none⟩ = some (.int .i64 n0) := (((Q0_5.out.alloc _).alloc _)).cell 0
  have cQ01 : ((w5.alloc (.cells #[.int .i64 n0, .slice (some ⟨GK, 0, none⟩) key0.length Gd, .int .i64 b0, .int .i64 a1, .slice (some ⟨GM, Gf, none⟩) Gr.length Gc] 27)).alloc (.cells #[.int .i64 n0, .slice (some ⟨GK2, 0, none⟩) key0.length Gd2, .int .i64 a1, .slice (some ⟨GM2, Gf2, none⟩) Gr2.length Gc2] 36)).cell? ⟨w4.heap.size, 1, none⟩ = some (.slice (some ⟨XK, 0, none⟩) key0.length key0.length) := (((Q0_5.out.alloc _).alloc _)).cell 1
  have cQ02 : ((w5.alloc (.cells #[.int .i64 n0, .slice (some ⟨GK, 0, none⟩) key0.length Gd, .int .i64 b0, .int .i64 a1, .slice (some ⟨GM, Gf, none⟩) Gr.length Gc] 27)).alloc (.cells #[.int .i64 n0, .slice (some ⟨GK2, 0, none⟩) key0.length Gd2, .int .i64 a1, .slice (some ⟨GM2, Gf2, none⟩) Gr2.length Gc2] 36)).cell? ⟨w4.heap.size, 2, none⟩ = some (.int .i64 b0) := (((Q0_5.out.alloc _).alloc _)).cell 2
  have cQ03 : ((w5.alloc (.cells #[.int .i64 n0, .slice (some ⟨GK, 0, none⟩) key0.length Gd, .int .i64 b0, .int .i64 a1, .slice (some ⟨GM, Gf, none⟩) Gr.length Gc] 27)).alloc (.cells #[.int .i64 n0, .slice (some ⟨GK2, 0, none⟩) key0.length Gd2, .int .i64 a1, .slice (some ⟨GM2, Gf2, none⟩) Gr2.length Gc2] 36)).cell? ⟨w4.heap.size, 3, none⟩ = some (.int .i64 t0) := (((Q0_5.out.alloc _).alloc _)).cell 3
  have cQ04 : ((w5.alloc (.cells #[.int .i64 n0, .slice (some ⟨GK, 0, none⟩) key0.length Gd, .int .i64 b0, .int .i64 a1, .slice (some ⟨GM, Gf, none⟩) Gr.length Gc] 27)).alloc (.cells #[.int .i64 n0, .slice (some ⟨GK2, 0, none⟩) key0.length Gd2, .int .i64 a1, .slice (some ⟨GM2, Gf2, none⟩) Gr2.length Gc2] 36)).cell? ⟨w4.heap.size, 4, none⟩ = some (.slice (some ⟨XM, 0, none⟩) l0.length l0.length) := (((Q0_5.out.alloc _).alloc _)).cell 4
  go_wp2_with fail
  refine (eqG_any n0 b0 a1 _ _ _ _ key0 _ _ _ _ Gr Wr FL _ (G_5.out.key.rd.below (Go.Joins.below_alloc2 w5 _ _)) (W_5.out.key.rd.below (Go.Joins.below_alloc2 w5 _ _)) Q0k.out.1 (G_5.out.row.rd.below (Go.Joins.below_alloc2 w5 _ _)) (W_5.out.row.rd.below (Go.Joins.below_alloc2 w5 _ _)) GP.out WP.out PF.out.1 PF.out.2).mono ?_
  rintro e w6 ⟨rfl, hb⟩
  have Gx_6 : Hid (Blk w6 w5.heap.size #[.int .i64 n0, .slice (some ⟨GK, 0, none⟩) key0.length Gd, .int .i64 b0, .int .i64 a1, .slice (some ⟨GM, Gf, none⟩) Gr.length Gc] 27) := ((Blk.new _ _ _).alloc _).grow hb
  have U_Gx : Hid (w5.heap.size ≤ w5.heap.size ∧ w5.heap.size < w6.heap.size) := ⟨by omega, Gx_6.out.lt⟩
  have Gy_6 : Hid (Blk w6 (w5.heap.size + 1) #[.int .i64 n0, .slice (some ⟨GK2, 0, none⟩) key0.length Gd2, .int .i64 a1, .slice (some ⟨GM2, Gf2, none⟩) Gr2.length Gc2] 36) := (Blk.new_at (by simp)).grow hb
  have U_Gy : Hid (w5.heap.size ≤ (w5.heap.size + 1) ∧ (w5.heap.size + 1) < w6.heap.size) := ⟨by omega, Gy_6.out.lt⟩
  replace hb := grow_on (Go.Joins.below_alloc2 w5 _ _) hb
  have B6 : Hid (Below w.heap.size w w6) := grow_on B5.out hb
  have Z6 : Hid (w5.heap.size ≤ w6.heap.size) := hb.size
  have P0_6 : Hid (Blk w6 w.heap.size #[.int .i64 n0, .slice ka0 key0.length kc0, .int .i64 b0, .int .i64 t0, .slice a0 l0.length cap0] 58) := P0_5.out.grow hb
  have W_6 : Hid (GB w2.heap.size w6 WK key0 WM 0 Wr) := W_5.out.grow hb
  have W2_6 : Hid (GB w2.heap.size w6 WK2 key0 WM2 0 Wr2) := W2_5.out.grow hb
  have Wx_6 : Hid (Blk w6 w3.heap.size #[.int .i64 n0, .slice (some ⟨WK, 0, none⟩) key0.length Wd, .int .i64 b0, .int .i64 a1, .slice (some ⟨WM, 0, none⟩) Wr.length Wc] 27) := Wx_5.out.grow hb
  have Wy_6 : Hid (Blk w6 (w3.heap.size + 1) #[.int .i64 n0, .slice (some ⟨WK2, 0, none⟩) key0.length Wd2, .int .i64 a1, .slice (some ⟨WM2, 0, none⟩) Wr2.length Wc2] 36) := Wy_5.out.grow hb
  have X_6 : Hid (GB w3.heap.size w6 XK key0 XM 0 Xr) := X_5.out.grow hb
  have Q0_6 : Hid (Blk w6 w4.heap.size #[.int .i64 n0, .slice (some ⟨XK, 0, none⟩) key0.length key0.length, .int .i64 b0, .int .i64 t0, .slice (some ⟨XM, 0, none⟩) l0.length l0.length] 27) := Q0_5.out.grow hb
  have G_6 : Hid (GB w4.heap.size w6 GK key0 GM Gf Gr) := G_5.out.grow hb
  have G2_6 : Hid (GB w4.heap.size w6 GK2 key0 GM2 Gf2 Gr2) := G2_5.out.grow hb
  clear hb cP00 cP01 cP02 cP03 cP04 cWx0 cWx1 cWx2 cWx3 cWx4 cWy0 cWy1 cWy2 cWy3 cQ00 cQ01 cQ02 cQ03 cQ04
  have cP00 : w6.cell? ⟨w.heap.size, 0, none⟩ = some (.int .i64 n0) := (P0_6.out).cell 0
  have cP01 : w6.cell? ⟨w.heap.size, 1, none⟩ = some (.slice ka0 key0.length kc0) := (P0_6.out).cell 1
  have cP02 : w6.cell? ⟨w.heap.size, 2, none⟩ = some (.int .i64 b0) := (P0_6.out).cell 2
  have cP03 : w6.cell? ⟨w.heap.size, 3, none⟩ = some (.int .i64 t0) := (P0_6.out).cell 3
  have cP04 : w6.cell? ⟨w.heap.size, 4, none⟩ = some (.slice a0 l0.length cap0) := (P0_6.out).cell 4
  have cWx0 : w6.cell? ⟨w3.heap.size, 0, none⟩ = some (.int .i64 n0) := (Wx_6.out).cell 0
  have cWx1 : w6.cell? ⟨w3.heap.size, 1, none⟩ = some (.slice (some ⟨WK, 0, none⟩) key0.length Wd) := (Wx_6.out).cell 1
  have cWx2 : w6.cell? ⟨w3.heap.size, 2, none⟩ = some (.int .i64 b0) := (Wx_6.out).cell 2
  have cWx3 : w6.cell? ⟨w3.heap.size, 3, none⟩ = some (.int .i64 a1) := (Wx_6.out).cell 3
  have cWx4 : w6.cell? ⟨w3.heap.size, 4, none⟩ = some (.slice (some ⟨WM, 0, none⟩) Wr.length Wc) := (Wx_6.out).cell 4
  have cWy0 : w6.cell? ⟨(w3.heap.size + 1), 0, none⟩ = some (.int .i64 n0) := (Wy_6.out).cell 0
  have cWy1 : w6.cell? ⟨(w3.heap.size + 1), 1, none⟩ = some (.slice (some ⟨WK2, 0, none⟩) key0.length Wd2) := (Wy_6.out).cell 1
  have cWy2 : w6.cell? ⟨(w3.heap.size + 1), 2, none⟩ = some (.int .i64 a1) := (Wy_6.out).cell 2
  have cWy3 : w6.cell? ⟨(w3.heap.size + 1), 3, none⟩ = some (.slice (some ⟨WM2, 0, none⟩) Wr2.length Wc2) := (Wy_6.out).cell 3
  have cQ00 : w6.cell? ⟨w4.heap.size, 0, none⟩ = some (.int .i64 n0) := (Q0_6.out).cell 0
  have cQ01 : w6.cell? ⟨w4.heap.size, 1, none⟩ = some (.slice (some ⟨XK, 0, none⟩) key0.length key0.length) := (Q0_6.out).cell 1
  have cQ02 : w6.cell? ⟨w4.heap.size, 2, none⟩ = some (.int .i64 b0) := (Q0_6.out).cell 2
  have cQ03 : w6.cell? ⟨w4.heap.size, 3, none⟩ = some (.int .i64 t0) := (Q0_6.out).cell 3
  have cQ04 : w6.cell? ⟨w4.heap.size, 4, none⟩ = some (.slice (some ⟨XM, 0, none⟩) l0.length l0.length) := (Q0_6.out).cell 4
  have cGx0 : w6.cell? ⟨w5.heap.size, 0, none⟩ = some (.int .i64 n0) := (Gx_6.out).cell 0
  have cGx1 : w6.cell? ⟨w5.heap.size, 1, none⟩ = some (.slice (some ⟨GK, 0, none⟩) key0.length Gd) := (Gx_6.out).cell 1
  have cGx2 : w6.cell? ⟨w5.heap.size, 2, none⟩ = some (.int .i64 b0) := (Gx_6.out).cell 2
  have cGx3 : w6.cell? ⟨w5.heap.size, 3, none⟩ = some (.int .i64 a1) := (Gx_6.out).cell 3
  have cGx4 : w6.cell? ⟨w5.heap.size, 4, none⟩ = some (.slice (some ⟨GM, Gf, none⟩) Gr.length Gc) := (Gx_6.out).cell 4
  have cGy0 : w6.cell? ⟨(w5.heap.size + 1), 0, none⟩ = some (.int .i64 n0) := (Gy_6.out).cell 0
  have cGy1 : w6.cell? ⟨(w5.heap.size + 1), 1, none⟩ = some (.slice (some ⟨GK2, 0, none⟩) key0.length Gd2) := (Gy_6.out).cell 1
  have cGy2 : w6.cell? ⟨(w5.heap.size + 1), 2, none⟩ = some (.int .i64 a1) := (Gy_6.out).cell 2
  have cGy3 : w6.cell? ⟨(w5.heap.size + 1), 3, none⟩ = some (.slice (some ⟨GM2, Gf2, none⟩) Gr2.length Gc2) := (Gy_6.out).cell 3
  go_wp2_with fail
  refine (eqB_any n0 a1 _ _ _ _ key0 _ _ _ _ Gr2 Wr2 l0 _ G2_6.out.key.rd W2_6.out.key.rd Q0k.out.1 G2_6.out.row.rd W2_6.out.row.rd G2P.out W2P.out M0.out F0.out).mono ?_
  rintro e w7 ⟨rfl, hb⟩
  have B7 : Hid (Below w.heap.size w w7) := grow_on B6.out hb
  have Z7 : Hid (w6.heap.size ≤ w7.heap.size) := hb.size
  have P0_7 : Hid (Blk w7 w.heap.size #[.int .i64 n0, .slice ka0 key0.length kc0, .int .i64 b0, .int .i64 t0, .slice a0 l0.length cap0] 58) := P0_6.out.grow hb
  have W_7 : Hid (GB w2.heap.size w7 WK key0 WM 0 Wr) := W_6.out.grow hb
  have W2_7 : Hid (GB w2.heap.size w7 WK2 key0 WM2 0 Wr2) := W2_6.out.grow hb
  have Wx_7 : Hid (Blk w7 w3.heap.size #[.int .i64 n0, .slice (some ⟨WK, 0, none⟩) key0.length Wd, .int .i64 b0, .int .i64 a1, .slice (some ⟨WM, 0, none⟩) Wr.length Wc] 27) := Wx_6.out.grow hb
  have Wy_7 : Hid (Blk w7 (w3.heap.size + 1) #[.int .i64 n0, .slice (some ⟨WK2, 0, none⟩) key0.length Wd2, .int .i64 a1, .slice (some ⟨WM2, 0, none⟩) Wr2.length Wc2] 36) := Wy_6.out.grow hb
  have X_7 : Hid (GB w3.heap.size w7 XK key0 XM 0 Xr) := X_6.out.grow hb
  have Q0_7 : Hid (Blk w7 w4.heap.size #[.int .i64 n0, .slice (some ⟨XK, 0, none⟩) key0.length key0.length, .int .i64 b0, .int .i64 t0, .slice (some ⟨XM, 0, none⟩) l0.length l0.length] 27) := Q0_6.out.grow hb
  have G_7 : Hid (GB w4.heap.size w7 GK key0 GM Gf Gr) := G_6.out.grow hb
  have G2_7 : Hid (GB w4.heap.size w7 GK2 key0 GM2 Gf2 Gr2) := G2_6.out.grow hb
  have Gx_7 : Hid (Blk w7 w5.heap.size #[.int .i64 n0, .slice (some ⟨GK, 0, none⟩) key0.length Gd, .int .i64 b0, .int .i64 a1, .slice (some ⟨GM, Gf, none⟩) Gr.length Gc] 27) := Gx_6.out.grow hb
  have Gy_7 : Hid (Blk w7 (w5.heap.size + 1) #[.int .i64 n0, .slice (some ⟨GK2, 0, none⟩) key0.length Gd2, .int .i64 a1, .slice (some ⟨GM2, Gf2, none⟩) Gr2.length Gc2] 36) := Gy_6.out.grow hb
  clear hb cP00 cP01 cP02 cP03 cP04 cWx0 cWx1 cWx2 cWx3 cWx4 cWy0 cWy1 cWy2 cWy3 cQ00 cQ01 cQ02 cQ03 cQ04 cGx0 cGx1 cGx2 cGx3 cGx4 cGy0 cGy1 cGy2 cGy3
  have cP00 : w7.cell? ⟨w.heap.size, 0, none⟩ = some (.int .i64 n0) := (P0_7.out).cell 0
  have cP01 : w7.cell? ⟨w.heap.size, 1, none⟩ = some (.slice ka0 key0.length kc0) := (P0_7.out).cell 1
  have cP02 : w7.cell? ⟨w.heap.size, 2, none⟩ = some (.int .i64 b0) := (P0_7.out).cell 2
  have cP03 : w7.cell? ⟨w.heap.size, 3, none⟩ = some (.int .i64 t0) := (P0_7.out).cell 3
  have cP04 : w7.cell? ⟨w.heap.size, 4, none⟩ = some (.slice a0 l0.length cap0) := (P0_7.out).cell 4
  have cQ00 : w7.cell? ⟨w4.heap.size, 0, none⟩ = some (.int .i64 n0) := (Q0_7.out).cell 0
  have cQ01 : w7.cell? ⟨w4.heap.size, 1, none⟩ = some (.slice (some ⟨XK, 0, none⟩) key0.length key0.length) := (Q0_7.out).cell 1
  have cQ02 : w7.cell? ⟨w4.heap.size, 2, none⟩ = some (.int .i64 b0) := (Q0_7.out).cell 2
  have cQ03 : w7.cell? ⟨w4.heap.size, 3, none⟩ = some (.int .i64 t0) := (Q0_7.out).cell 3
  have cQ04 : w7.cell? ⟨w4.heap.size, 4, none⟩ = some (.slice (some ⟨XM, 0, none⟩) l0.length l0.length) := (Q0_7.out).cell 4
  go_wp2
  have kz : Below w7.heap.size w7 w7.drew := (Below.refl _ _).drew
  have kP0 := P0_7.out.lt
  have kQ0 := Q0_7.out.lt
  have HS : Hid (∀ w', Below w7.heap.size w7 w' → Below w7.heap.size w7 w' ∧ w'.cell? ⟨w.heap.size, 0, none⟩ = some (.int .i64 n0) ∧ w'.cell? ⟨w.heap.size, 1, none⟩ = some (.slice ka0 key0.length kc0) ∧ w'.cell? ⟨w.heap.size, 2, none⟩ = some (.int .i64 b0) ∧ w'.cell? ⟨w.heap.size, 3, none⟩ = some (.int .i64 t0) ∧ w'.cell? ⟨w.heap.size, 4, none⟩ = some (.slice a0 l0.length cap0) ∧ w'.cell? ⟨w4.heap.size, 0, none⟩ = some (.int .i64 n0) ∧ w'.cell? ⟨w4.heap.size, 1, none⟩ = some (.slice (some ⟨XK, 0, none⟩) key0.length key0.length) ∧ w'.cell? ⟨w4.heap.size, 2, none⟩ = some (.int .i64 b0) ∧ w'.cell? ⟨w4.heap.size, 3, none⟩ = some (.int .i64 t0) ∧ w'.cell? ⟨w4.heap.size, 4, none⟩ = some (.slice (some ⟨XM, 0, none⟩) l0.length l0.length)) := fun w' h => ⟨h, (h.cell kP0).trans cP00, (h.cell kP0).trans cP01, (h.cell kP0).trans cP02, (h.cell kP0).trans cP03, (h.cell kP0).trans cP04, (h.cell kQ0).trans cQ00, (h.cell kQ0).trans cQ01, (h.cell kQ0).trans cQ02, (h.cell kQ0).trans cQ03, (h.cell kQ0).trans cQ04⟩
  go_region_held3 (fun w' => Below w7.heap.size w7 w' ∧ w'.cell? ⟨w.heap.size, 0, none⟩ = some (.int .i64 n0) ∧ w'.cell? ⟨w.heap.size, 1, none⟩ = some (.slice ka0 key0.length kc0) ∧ w'.cell? ⟨w.heap.size, 2, none⟩ = some (.int .i64 b0) ∧ w'.cell? ⟨w.heap.size, 3, none⟩ = some (.int .i64 t0) ∧ w'.cell? ⟨w.heap.size, 4, none⟩ = some (.slice a0 l0.length cap0) ∧ w'.cell? ⟨w4.heap.size, 0, none⟩ = some (.int .i64 n0) ∧ w'.cell? ⟨w4.heap.size, 1, none⟩ = some (.slice (some ⟨XK, 0, none⟩) key0.length key0.length) ∧ w'.cell? ⟨w4.heap.size, 2, none⟩ = some (.int .i64 b0) ∧ w'.cell? ⟨w4.heap.size, 3, none⟩ = some (.int .i64 t0) ∧ w'.cell? ⟨w4.heap.size, 4, none⟩ = some (.slice (some ⟨XM, 0, none⟩) l0.length l0.length)) (first | with_reducible exact HS.out _ kz | with_reducible exact HS.out _ (grow_on kz hy0) | with_reducible exact HS.out _ (grow_on (grow_on kz hy0) hy1) | (go_keep; done)) (first | (go_at_call 33; with_reducible refine (Grp.toGroup_any n0 b0 t0 ka0 kc0 key0 a0 cap0 l0 _ (U0.out.below (grow_on B7.out kz)) K0.out.1 (R0.out.below (grow_on B7.out kz)) K0.out.2.1 K0.out.2.2.1).mono ?_; rintro e wy ⟨⟨EK, EM, Er, rfl, hG, hA, hP⟩, hy0⟩) | (go_at_call 35; refine (Grp.eqGroup_any n0 b0 t0 _ _ _ _ key0 _ _ _ _ l0 _ ((X_7.out.key.rd).below (grow_on kz hy0)) hG.key.rd Q0k.out.1 ((rdP X_7.out XP.out).rd.below (grow_on kz hy0)) (rdP hG hP).rd M0.out F0.out).mono ?_; rintro e w8 ⟨rfl, hy1⟩))
  have hb := (grow_on (grow_on kz hy0) hy1)
  have B8 : Hid (Below w.heap.size w w8) := grow_on B7.out hb
  have Z8 : Hid (w7.heap.size ≤ w8.heap.size) := hb.size
  have P0_8 : Hid (Blk w8 w.heap.size #[.int .i64 n0, .slice ka0 key0.length kc0, .int .i64 b0, .int .i64 t0, .slice a0 l0.length cap0] 58) := P0_7.out.grow hb
  have W_8 : Hid (GB w2.heap.size w8 WK key0 WM 0 Wr) := W_7.out.grow hb
  have W2_8 : Hid (GB w2.heap.size w8 WK2 key0 WM2 0 Wr2) := W2_7.out.grow hb
  have Wx_8 : Hid (Blk w8 w3.heap.size #[.int .i64 n0, .slice (some ⟨WK, 0, none⟩) key0.length Wd, .int .i64 b0, .int .i64 a1, .slice (some ⟨WM, 0, none⟩) Wr.length Wc] 27) := Wx_7.out.grow hb
  have Wy_8 : Hid (Blk w8 (w3.heap.size + 1) #[.int .i64 n0, .slice (some ⟨WK2, 0, none⟩) key0.length Wd2, .int .i64 a1, .slice (some ⟨WM2, 0, none⟩) Wr2.length Wc2] 36) := Wy_7.out.grow hb
  have X_8 : Hid (GB w3.heap.size w8 XK key0 XM 0 Xr) := X_7.out.grow hb
  have Q0_8 : Hid (Blk w8 w4.heap.size #[.int .i64 n0, .slice (some ⟨XK, 0, none⟩) key0.length key0.length, .int .i64 b0, .int .i64 t0, .slice (some ⟨XM, 0, none⟩) l0.length l0.length] 27) := Q0_7.out.grow hb
  have G_8 : Hid (GB w4.heap.size w8 GK key0 GM Gf Gr) := G_7.out.grow hb
  have G2_8 : Hid (GB w4.heap.size w8 GK2 key0 GM2 Gf2 Gr2) := G2_7.out.grow hb
  have Gx_8 : Hid (Blk w8 w5.heap.size #[.int .i64 n0, .slice (some ⟨GK, 0, none⟩) key0.length Gd, .int .i64 b0, .int .i64 a1, .slice (some ⟨GM, Gf, none⟩) Gr.length Gc] 27) := Gx_7.out.grow hb
  have Gy_8 : Hid (Blk w8 (w5.heap.size + 1) #[.int .i64 n0, .slice (some ⟨GK2, 0, none⟩) key0.length Gd2, .int .i64 a1, .slice (some ⟨GM2, Gf2, none⟩) Gr2.length Gc2] 36) := Gy_7.out.grow hb
  clear hb kz HS hy0 hy1 kP0 kQ0 cP00 cP01 cP02 cP03 cP04 cQ00 cQ01 cQ02 cQ03 cQ04 hG hA hP
  have XN : Hid (Xr.length = l0.length) := len_of XP.out
  have XS : Hid (1 + 2 * key0.length + sumA Xr ≤ 9000000) := by have h1 := marks_of XP.out; have h2 := K0.out; show _ ≤ _; omega
  have hXM : Hid (Calls Try.prog 43 #[.agg #[.int .i64 n0, .slice (some ⟨XK, 0, none⟩) key0.length key0.length, .int .i64 b0, .int .i64 t0, .slice (some ⟨XM, 0, none⟩) l0.length l0.length], .int .i64 1] w8 fun e w' => e = .returned (.int .i64 ((1 + 2 * key0.length + sumA Xr : Nat) : Int)) ∧ Only (gblks XK XM Xr) w8 w') := by
    have h := (Grp.markGroup_any n0 b0 t0 XK key0.length key0 XM 0 l0.length 1 _ Xr w8 X_8.out K0.out.1 (by rw [XN.out]; have := K0.out.2.1; omega) (by omega) XS.out).mono (fun e w' h => (⟨h.1, h.2.2⟩ : e = .returned (.int .i64 ((1 + 2 * key0.length + sumA Xr : Nat) : Int)) ∧ Only (gblks XK XM Xr) w8 w'))
    rw [XN.out] at h
    exact h
  have cP00 : w8.cell? ⟨w.heap.size, 0, none⟩ = some (.int .i64 n0) := (P0_8.out).cell 0
  have cP01 : w8.cell? ⟨w.heap.size, 1, none⟩ = some (.slice ka0 key0.length kc0) := (P0_8.out).cell 1
  have cP02 : w8.cell? ⟨w.heap.size, 2, none⟩ = some (.int .i64 b0) := (P0_8.out).cell 2
  have cP03 : w8.cell? ⟨w.heap.size, 3, none⟩ = some (.int .i64 t0) := (P0_8.out).cell 3
  have cP04 : w8.cell? ⟨w.heap.size, 4, none⟩ = some (.slice a0 l0.length cap0) := (P0_8.out).cell 4
  have cWx0 : w8.cell? ⟨w3.heap.size, 0, none⟩ = some (.int .i64 n0) := (Wx_8.out).cell 0
  have cWx1 : w8.cell? ⟨w3.heap.size, 1, none⟩ = some (.slice (some ⟨WK, 0, none⟩) key0.length Wd) := (Wx_8.out).cell 1
  have cWx2 : w8.cell? ⟨w3.heap.size, 2, none⟩ = some (.int .i64 b0) := (Wx_8.out).cell 2
  have cWx3 : w8.cell? ⟨w3.heap.size, 3, none⟩ = some (.int .i64 a1) := (Wx_8.out).cell 3
  have cWx4 : w8.cell? ⟨w3.heap.size, 4, none⟩ = some (.slice (some ⟨WM, 0, none⟩) Wr.length Wc) := (Wx_8.out).cell 4
  have cWy0 : w8.cell? ⟨(w3.heap.size + 1), 0, none⟩ = some (.int .i64 n0) := (Wy_8.out).cell 0
  have cWy1 : w8.cell? ⟨(w3.heap.size + 1), 1, none⟩ = some (.slice (some ⟨WK2, 0, none⟩) key0.length Wd2) := (Wy_8.out).cell 1
  have cWy2 : w8.cell? ⟨(w3.heap.size + 1), 2, none⟩ = some (.int .i64 a1) := (Wy_8.out).cell 2
  have cWy3 : w8.cell? ⟨(w3.heap.size + 1), 3, none⟩ = some (.slice (some ⟨WM2, 0, none⟩) Wr2.length Wc2) := (Wy_8.out).cell 3
  have cQ00 : w8.cell? ⟨w4.heap.size, 0, none⟩ = some (.int .i64 n0) := (Q0_8.out).cell 0
  have cQ01 : w8.cell? ⟨w4.heap.size, 1, none⟩ = some (.slice (some ⟨XK, 0, none⟩) key0.length key0.length) := (Q0_8.out).cell 1
  have cQ02 : w8.cell? ⟨w4.heap.size, 2, none⟩ = some (.int .i64 b0) := (Q0_8.out).cell 2
  have cQ03 : w8.cell? ⟨w4.heap.size, 3, none⟩ = some (.int .i64 t0) := (Q0_8.out).cell 3
  have cQ04 : w8.cell? ⟨w4.heap.size, 4, none⟩ = some (.slice (some ⟨XM, 0, none⟩) l0.length l0.length) := (Q0_8.out).cell 4
  have cGx0 : w8.cell? ⟨w5.heap.size, 0, none⟩ = some (.int .i64 n0) := (Gx_8.out).cell 0
  have cGx1 : w8.cell? ⟨w5.heap.size, 1, none⟩ = some (.slice (some ⟨GK, 0, none⟩) key0.length Gd) := (Gx_8.out).cell 1
  have cGx2 : w8.cell? ⟨w5.heap.size, 2, none⟩ = some (.int .i64 b0) := (Gx_8.out).cell 2
  have cGx3 : w8.cell? ⟨w5.heap.size, 3, none⟩ = some (.int .i64 a1) := (Gx_8.out).cell 3
  have cGx4 : w8.cell? ⟨w5.heap.size, 4, none⟩ = some (.slice (some ⟨GM, Gf, none⟩) Gr.length Gc) := (Gx_8.out).cell 4
  have cGy0 : w8.cell? ⟨(w5.heap.size + 1), 0, none⟩ = some (.int .i64 n0) := (Gy_8.out).cell 0
  have cGy1 : w8.cell? ⟨(w5.heap.size + 1), 1, none⟩ = some (.slice (some ⟨GK2, 0, none⟩) key0.length Gd2) := (Gy_8.out).cell 1
  have cGy2 : w8.cell? ⟨(w5.heap.size + 1), 2, none⟩ = some (.int .i64 a1) := (Gy_8.out).cell 2
  have cGy3 : w8.cell? ⟨(w5.heap.size + 1), 3, none⟩ = some (.slice (some ⟨GM2, Gf2, none⟩) Gr2.length Gc2) := (Gy_8.out).cell 3
  go_wp2_with fail
  refine (hXM.out).mono ?_
  rintro e w9 ⟨rfl, ho⟩
  have B9 : Hid (Below w.heap.size w w9) := B8.out.trans (ho.low (fun k hk => by have hx := XR.out k hk; have hw := B3.out.size; have h0 := Z1.out; have h1 := Z2.out; have h2 := Z3.out; have h3 := Z4.out; have h4 := Z5.out; have h5 := Z6.out; have h6 := Z7.out; have h7 := Z8.out; have h8 := U_P0.out; have h9 := U_Wx.out; have h10 := U_Wy.out; have h11 := U_Q0.out; have h12 := U_Gx.out; have h13 := U_Gy.out; omega) B8.out.size)
  have Z9 : Hid (w8.heap.size ≤ w9.heap.size) := ho.size
  have P0_9 : Hid (Blk w9 w.heap.size #[.int .i64 n0, .slice ka0 key0.length kc0, .int .i64 b0, .int .i64 t0, .slice a0 l0.length cap0] 58) := ho.blk P0_8.out (fun hs => by have hx := XR.out _ hs; have h0 := Z1.out; have h1 := Z2.out; have h2 := Z3.out; have h3 := Z4.out; have h4 := Z5.out; have h5 := Z6.out; have h6 := Z7.out; have h7 := Z8.out; have h8 := Z9.out; have h9 := U_P0.out; have h10 := U_Wx.out; have h11 := U_Wy.out; have h12 := U_Q0.out; have h13 := U_Gx.out; have h14 := U_Gy.out; omega)
  have W_9 : Hid (GB w2.heap.size w9 WK key0 WM 0 Wr) := W_8.out.only ho (fun k hk hs => by have hx := XR.out k hs; have hy := WR.out k hk; have h0 := Z1.out; have h1 := Z2.out; have h2 := Z3.out; have h3 := Z4.out; have h4 := Z5.out; have h5 := Z6.out; have h6 := Z7.out; have h7 := Z8.out; have h8 := Z9.out; have h9 := U_P0.out; have h10 := U_Wx.out; have h11 := U_Wy.out; have h12 := U_Q0.out; have h13 := U_Gx.out; have h14 := U_Gy.out; omega)
  have W2_9 : Hid (GB w2.heap.size w9 WK2 key0 WM2 0 Wr2) := W2_8.out.only ho (fun k hk hs => by have hx := XR.out k hs; have hy := W2R.out k hk; have h0 := Z1.out; have h1 := Z2.out; have h2 := Z3.out; have h3 := Z4.out; have h4 := Z5.out; have h5 := Z6.out; have h6 := Z7.out; have h7 := Z8.out; have h8 := Z9.out; have h9 := U_P0.out; have h10 := U_Wx.out; have h11 := U_Wy.out; have h12 := U_Q0.out; have h13 := U_Gx.out; have h14 := U_Gy.out; omega)
  have Wx_9 : Hid (Blk w9 w3.heap.size #[.int .i64 n0, .slice (some ⟨WK, 0, none⟩) key0.length Wd, .int .i64 b0, .int .i64 a1, .slice (some ⟨WM, 0, none⟩) Wr.length Wc] 27) := ho.blk Wx_8.out (fun hs => by have hx := XR.out _ hs; have h0 := Z1.out; have h1 := Z2.out; have h2 := Z3.out; have h3 := Z4.out; have h4 := Z5.out; have h5 := Z6.out; have h6 := Z7.out; have h7 := Z8.out; have h8 := Z9.out; have h9 := U_P0.out; have h10 := U_Wx.out; have h11 := U_Wy.out; have h12 := U_Q0.out; have h13 := U_Gx.out; have h14 := U_Gy.out; omega)
  have Wy_9 : Hid (Blk w9 (w3.heap.size + 1) #[.int .i64 n0, .slice (some ⟨WK2, 0, none⟩) key0.length Wd2, .int .i64 a1, .slice (some ⟨WM2, 0, none⟩) Wr2.length Wc2] 36) := ho.blk Wy_8.out (fun hs => by have hx := XR.out _ hs; have h0 := Z1.out; have h1 := Z2.out; have h2 := Z3.out; have h3 := Z4.out; have h4 := Z5.out; have h5 := Z6.out; have h6 := Z7.out; have h7 := Z8.out; have h8 := Z9.out; have h9 := U_P0.out; have h10 := U_Wx.out; have h11 := U_Wy.out; have h12 := U_Q0.out; have h13 := U_Gx.out; have h14 := U_Gy.out; omega)
  have G_9 : Hid (GB w4.heap.size w9 GK key0 GM Gf Gr) := G_8.out.only ho (fun k hk hs => by have hx := XR.out k hs; have hy := GR.out k hk; have h0 := Z1.out; have h1 := Z2.out; have h2 := Z3.out; have h3 := Z4.out; have h4 := Z5.out; have h5 := Z6.out; have h6 := Z7.out; have h7 := Z8.out; have h8 := Z9.out; have h9 := U_P0.out; have h10 := U_Wx.out; have h11 := U_Wy.out; have h12 := U_Q0.out; have h13 := U_Gx.out; have h14 := U_Gy.out; omega)
  have G2_9 : Hid (GB w4.heap.size w9 GK2 key0 GM2 Gf2 Gr2) := G2_8.out.only ho (fun k hk hs => by have hx := XR.out k hs; have hy := G2R.out k hk; have h0 := Z1.out; have h1 := Z2.out; have h2 := Z3.out; have h3 := Z4.out; have h4 := Z5.out; have h5 := Z6.out; have h6 := Z7.out; have h7 := Z8.out; have h8 := Z9.out; have h9 := U_P0.out; have h10 := U_Wx.out; have h11 := U_Wy.out; have h12 := U_Q0.out; have h13 := U_Gx.out; have h14 := U_Gy.out; omega)
  have Gx_9 : Hid (Blk w9 w5.heap.size #[.int .i64 n0, .slice (some ⟨GK, 0, none⟩) key0.length Gd, .int .i64 b0, .int .i64 a1, .slice (some ⟨GM, Gf, none⟩) Gr.length Gc] 27) := ho.blk Gx_8.out (fun hs => by have hx := XR.out _ hs; have h0 := Z1.out; have h1 := Z2.out; have h2 := Z3.out; have h3 := Z4.out; have h4 := Z5.out; have h5 := Z6.out; have h6 := Z7.out; have h7 := Z8.out; have h8 := Z9.out; have h9 := U_P0.out; have h10 := U_Wx.out; have h11 := U_Wy.out; have h12 := U_Q0.out; have h13 := U_Gx.out; have h14 := U_Gy.out; omega)
  have Gy_9 : Hid (Blk w9 (w5.heap.size + 1) #[.int .i64 n0, .slice (some ⟨GK2, 0, none⟩) key0.length Gd2, .int .i64 a1, .slice (some ⟨GM2, Gf2, none⟩) Gr2.length Gc2] 36) := ho.blk Gy_8.out (fun hs => by have hx := XR.out _ hs; have h0 := Z1.out; have h1 := Z2.out; have h2 := Z3.out; have h3 := Z4.out; have h4 := Z5.out; have h5 := Z6.out; have h6 := Z7.out; have h7 := Z8.out; have h8 := Z9.out; have h9 := U_P0.out; have h10 := U_Wx.out; have h11 := U_Wy.out; have h12 := U_Q0.out; have h13 := U_Gx.out; have h14 := U_Gy.out; omega)
  clear ho cP00 cP01 cP02 cP03 cP04 cWx0 cWx1 cWx2 cWx3 cWx4 cWy0 cWy1 cWy2 cWy3 cQ00 cQ01 cQ02 cQ03 cQ04 cGx0 cGx1 cGx2 cGx3 cGx4 cGy0 cGy1 cGy2 cGy3
  have hq : ¬ ((1 + 2 * key0.length + sumA Xr : Nat) : Int) < 0 := by omega
  generalize 1 + 2 * key0.length + sumA Xr = m1 at hq ⊢
  have cP00 : w9.cell? ⟨w.heap.size, 0, none⟩ = some (.int .i64 n0) := (P0_9.out).cell 0
  have cP01 : w9.cell? ⟨w.heap.size, 1, none⟩ = some (.slice ka0 key0.length kc0) := (P0_9.out).cell 1
  have cP02 : w9.cell? ⟨w.heap.size, 2, none⟩ = some (.int .i64 b0) := (P0_9.out).cell 2
  have cP03 : w9.cell? ⟨w.heap.size, 3, none⟩ = some (.int .i64 t0) := (P0_9.out).cell 3
  have cP04 : w9.cell? ⟨w.heap.size, 4, none⟩ = some (.slice a0 l0.length cap0) := (P0_9.out).cell 4
  have cWx0 : w9.cell? ⟨w3.heap.size, 0, none⟩ = some (.int .i64 n0) := (Wx_9.out).cell 0
  have cWx1 : w9.cell? ⟨w3.heap.size, 1, none⟩ = some (.slice (some ⟨WK, 0, none⟩) key0.length Wd) := (Wx_9.out).cell 1
  have cWx2 : w9.cell? ⟨w3.heap.size, 2, none⟩ = some (.int .i64 b0) := (Wx_9.out).cell 2
  have cWx3 : w9.cell? ⟨w3.heap.size, 3, none⟩ = some (.int .i64 a1) := (Wx_9.out).cell 3
  have cWx4 : w9.cell? ⟨w3.heap.size, 4, none⟩ = some (.slice (some ⟨WM, 0, none⟩) Wr.length Wc) := (Wx_9.out).cell 4
  have cWy0 : w9.cell? ⟨(w3.heap.size + 1), 0, none⟩ = some (.int .i64 n0) := (Wy_9.out).cell 0
  have cWy1 : w9.cell? ⟨(w3.heap.size + 1), 1, none⟩ = some (.slice (some ⟨WK2, 0, none⟩) key0.length Wd2) := (Wy_9.out).cell 1
  have cWy2 : w9.cell? ⟨(w3.heap.size + 1), 2, none⟩ = some (.int .i64 a1) := (Wy_9.out).cell 2
  have cWy3 : w9.cell? ⟨(w3.heap.size + 1), 3, none⟩ = some (.slice (some ⟨WM2, 0, none⟩) Wr2.length Wc2) := (Wy_9.out).cell 3
  have cGx0 : w9.cell? ⟨w5.heap.size, 0, none⟩ = some (.int .i64 n0) := (Gx_9.out).cell 0
  have cGx1 : w9.cell? ⟨w5.heap.size, 1, none⟩ = some (.slice (some ⟨GK, 0, none⟩) key0.length Gd) := (Gx_9.out).cell 1
  have cGx2 : w9.cell? ⟨w5.heap.size, 2, none⟩ = some (.int .i64 b0) := (Gx_9.out).cell 2
  have cGx3 : w9.cell? ⟨w5.heap.size, 3, none⟩ = some (.int .i64 a1) := (Gx_9.out).cell 3
  have cGx4 : w9.cell? ⟨w5.heap.size, 4, none⟩ = some (.slice (some ⟨GM, Gf, none⟩) Gr.length Gc) := (Gx_9.out).cell 4
  have cGy0 : w9.cell? ⟨(w5.heap.size + 1), 0, none⟩ = some (.int .i64 n0) := (Gy_9.out).cell 0
  have cGy1 : w9.cell? ⟨(w5.heap.size + 1), 1, none⟩ = some (.slice (some ⟨GK2, 0, none⟩) key0.length Gd2) := (Gy_9.out).cell 1
  have cGy2 : w9.cell? ⟨(w5.heap.size + 1), 2, none⟩ = some (.int .i64 a1) := (Gy_9.out).cell 2
  have cGy3 : w9.cell? ⟨(w5.heap.size + 1), 3, none⟩ = some (.slice (some ⟨GM2, Gf2, none⟩) Gr2.length Gc2) := (Gy_9.out).cell 3
  go_wp2_with fail
  refine (eqG_any n0 b0 a1 _ _ _ _ key0 _ _ _ _ Gr Wr FL _ (G_9.out.key.rd) (W_9.out.key.rd) Q0k.out.1 (G_9.out.row.rd) (W_9.out.row.rd) GP.out WP.out PF.out.1 PF.out.2).mono ?_
  rintro e w10 ⟨rfl, hb⟩
  have B10 : Hid (Below w.heap.size w w10) := grow_on B9.out hb
  have Z10 : Hid (w9.heap.size ≤ w10.heap.size) := hb.size
  have P0_10 : Hid (Blk w10 w.heap.size #[.int .i64 n0, .slice ka0 key0.length kc0, .int .i64 b0, .int .i64 t0, .slice a0 l0.length cap0] 58) := P0_9.out.grow hb
  have W_10 : Hid (GB w2.heap.size w10 WK key0 WM 0 Wr) := W_9.out.grow hb
  have W2_10 : Hid (GB w2.heap.size w10 WK2 key0 WM2 0 Wr2) := W2_9.out.grow hb
  have Wx_10 : Hid (Blk w10 w3.heap.size #[.int .i64 n0, .slice (some ⟨WK, 0, none⟩) key0.length Wd, .int .i64 b0, .int .i64 a1, .slice (some ⟨WM, 0, none⟩) Wr.length Wc] 27) := Wx_9.out.grow hb
  have Wy_10 : Hid (Blk w10 (w3.heap.size + 1) #[.int .i64 n0, .slice (some ⟨WK2, 0, none⟩) key0.length Wd2, .int .i64 a1, .slice (some ⟨WM2, 0, none⟩) Wr2.length Wc2] 36) := Wy_9.out.grow hb
  have G_10 : Hid (GB w4.heap.size w10 GK key0 GM Gf Gr) := G_9.out.grow hb
  have G2_10 : Hid (GB w4.heap.size w10 GK2 key0 GM2 Gf2 Gr2) := G2_9.out.grow hb
  have Gx_10 : Hid (Blk w10 w5.heap.size #[.int .i64 n0, .slice (some ⟨GK, 0, none⟩) key0.length Gd, .int .i64 b0, .int .i64 a1, .slice (some ⟨GM, Gf, none⟩) Gr.length Gc] 27) := Gx_9.out.grow hb
  have Gy_10 : Hid (Blk w10 (w5.heap.size + 1) #[.int .i64 n0, .slice (some ⟨GK2, 0, none⟩) key0.length Gd2, .int .i64 a1, .slice (some ⟨GM2, Gf2, none⟩) Gr2.length Gc2] 36) := Gy_9.out.grow hb
  clear hb cP00 cP01 cP02 cP03 cP04 cWx0 cWx1 cWx2 cWx3 cWx4 cWy0 cWy1 cWy2 cWy3 cGx0 cGx1 cGx2 cGx3 cGx4 cGy0 cGy1 cGy2 cGy3
  have cP00 : w10.cell? ⟨w.heap.size, 0, none⟩ = some (.int .i64 n0) := (P0_10.out).cell 0
  have cP01 : w10.cell? ⟨w.heap.size, 1, none⟩ = some (.slice ka0 key0.length kc0) := (P0_10.out).cell 1
  have cP02 : w10.cell? ⟨w.heap.size, 2, none⟩ = some (.int .i64 b0) := (P0_10.out).cell 2
  have cP03 : w10.cell? ⟨w.heap.size, 3, none⟩ = some (.int .i64 t0) := (P0_10.out).cell 3
  have cP04 : w10.cell? ⟨w.heap.size, 4, none⟩ = some (.slice a0 l0.length cap0) := (P0_10.out).cell 4
  have cWx0 : w10.cell? ⟨w3.heap.size, 0, none⟩ = some (.int .i64 n0) := (Wx_10.out).cell 0
  have cWx1 : w10.cell? ⟨w3.heap.size, 1, none⟩ = some (.slice (some ⟨WK, 0, none⟩) key0.length Wd) := (Wx_10.out).cell 1
  have cWx2 : w10.cell? ⟨w3.heap.size, 2, none⟩ = some (.int .i64 b0) := (Wx_10.out).cell 2
  have cWx3 : w10.cell? ⟨w3.heap.size, 3, none⟩ = some (.int .i64 a1) := (Wx_10.out).cell 3
  have cWx4 : w10.cell? ⟨w3.heap.size, 4, none⟩ = some (.slice (some ⟨WM, 0, none⟩) Wr.length Wc) := (Wx_10.out).cell 4
  have cWy0 : w10.cell? ⟨(w3.heap.size + 1), 0, none⟩ = some (.int .i64 n0) := (Wy_10.out).cell 0
  have cWy1 : w10.cell? ⟨(w3.heap.size + 1), 1, none⟩ = some (.slice (some ⟨WK2, 0, none⟩) key0.length Wd2) := (Wy_10.out).cell 1
  have cWy2 : w10.cell? ⟨(w3.heap.size + 1), 2, none⟩ = some (.int .i64 a1) := (Wy_10.out).cell 2
  have cWy3 : w10.cell? ⟨(w3.heap.size + 1), 3, none⟩ = some (.slice (some ⟨WM2, 0, none⟩) Wr2.length Wc2) := (Wy_10.out).cell 3
  have cGx0 : w10.cell? ⟨w5.heap.size, 0, none⟩ = some (.int .i64 n0) := (Gx_10.out).cell 0
  have cGx1 : w10.cell? ⟨w5.heap.size, 1, none⟩ = some (.slice (some ⟨GK, 0, none⟩) key0.length Gd) := (Gx_10.out).cell 1
  have cGx2 : w10.cell? ⟨w5.heap.size, 2, none⟩ = some (.int .i64 b0) := (Gx_10.out).cell 2
  have cGx3 : w10.cell? ⟨w5.heap.size, 3, none⟩ = some (.int .i64 a1) := (Gx_10.out).cell 3
  have cGx4 : w10.cell? ⟨w5.heap.size, 4, none⟩ = some (.slice (some ⟨GM, Gf, none⟩) Gr.length Gc) := (Gx_10.out).cell 4
  have cGy0 : w10.cell? ⟨(w5.heap.size + 1), 0, none⟩ = some (.int .i64 n0) := (Gy_10.out).cell 0
  have cGy1 : w10.cell? ⟨(w5.heap.size + 1), 1, none⟩ = some (.slice (some ⟨GK2, 0, none⟩) key0.length Gd2) := (Gy_10.out).cell 1
  have cGy2 : w10.cell? ⟨(w5.heap.size + 1), 2, none⟩ = some (.int .i64 a1) := (Gy_10.out).cell 2
  have cGy3 : w10.cell? ⟨(w5.heap.size + 1), 3, none⟩ = some (.slice (some ⟨GM2, Gf2, none⟩) Gr2.length Gc2) := (Gy_10.out).cell 3
  go_wp2_with fail
  refine (eqB_any n0 a1 _ _ _ _ key0 _ _ _ _ Gr2 Wr2 l0 _ G2_10.out.key.rd W2_10.out.key.rd Q0k.out.1 G2_10.out.row.rd W2_10.out.row.rd G2P.out W2P.out M0.out F0.out).mono ?_
  rintro e w11 ⟨rfl, hb⟩
  have B11 : Hid (Below w.heap.size w w11) := grow_on B10.out hb
  have Z11 : Hid (w10.heap.size ≤ w11.heap.size) := hb.size
  have P0_11 : Hid (Blk w11 w.heap.size #[.int .i64 n0, .slice ka0 key0.length kc0, .int .i64 b0, .int .i64 t0, .slice a0 l0.length cap0] 58) := P0_10.out.grow hb
  have W_11 : Hid (GB w2.heap.size w11 WK key0 WM 0 Wr) := W_10.out.grow hb
  have W2_11 : Hid (GB w2.heap.size w11 WK2 key0 WM2 0 Wr2) := W2_10.out.grow hb
  have Wx_11 : Hid (Blk w11 w3.heap.size #[.int .i64 n0, .slice (some ⟨WK, 0, none⟩) key0.length Wd, .int .i64 b0, .int .i64 a1, .slice (some ⟨WM, 0, none⟩) Wr.length Wc] 27) := Wx_10.out.grow hb
  have Wy_11 : Hid (Blk w11 (w3.heap.size + 1) #[.int .i64 n0, .slice (some ⟨WK2, 0, none⟩) key0.length Wd2, .int .i64 a1, .slice (some ⟨WM2, 0, none⟩) Wr2.length Wc2] 36) := Wy_10.out.grow hb
  have G_11 : Hid (GB w4.heap.size w11 GK key0 GM Gf Gr) := G_10.out.grow hb
  have G2_11 : Hid (GB w4.heap.size w11 GK2 key0 GM2 Gf2 Gr2) := G2_10.out.grow hb
  have Gx_11 : Hid (Blk w11 w5.heap.size #[.int .i64 n0, .slice (some ⟨GK, 0, none⟩) key0.length Gd, .int .i64 b0, .int .i64 a1, .slice (some ⟨GM, Gf, none⟩) Gr.length Gc] 27) := Gx_10.out.grow hb
  have Gy_11 : Hid (Blk w11 (w5.heap.size + 1) #[.int .i64 n0, .slice (some ⟨GK2, 0, none⟩) key0.length Gd2, .int .i64 a1, .slice (some ⟨GM2, Gf2, none⟩) Gr2.length Gc2] 36) := Gy_10.out.grow hb
  clear hb cP00 cP01 cP02 cP03 cP04 cWx0 cWx1 cWx2 cWx3 cWx4 cWy0 cWy1 cWy2 cWy3 cGx0 cGx1 cGx2 cGx3 cGx4 cGy0 cGy1 cGy2 cGy3
  clear hq
  have GS : Hid (1 + 2 * key0.length + sumA Gr ≤ 4000000 ∧ Gr.length ≤ 2000000) := by have h1 := marks_of GP.out; have h2 := len_of GP.out; have h3 := PS.out; have h4 := K0.out; exact ⟨by omega, by omega⟩
  have G2S : Hid (2 * key0.length + sumA Gr2 ≤ 4000000 ∧ Gr2.length ≤ 2000000) := by have h1 := marks_of G2P.out; have h2 := len_of G2P.out; have h4 := K0.out; exact ⟨by omega, by omega⟩
  have cP00 : w11.cell? ⟨w.heap.size, 0, none⟩ = some (.int .i64 n0) := (P0_11.out).cell 0
  have cP01 : w11.cell? ⟨w.heap.size, 1, none⟩ = some (.slice ka0 key0.length kc0) := (P0_11.out).cell 1
  have cP02 : w11.cell? ⟨w.heap.size, 2, none⟩ = some (.int .i64 b0) := (P0_11.out).cell 2
  have cP03 : w11.cell? ⟨w.heap.size, 3, none⟩ = some (.int .i64 t0) := (P0_11.out).cell 3
  have cP04 : w11.cell? ⟨w.heap.size, 4, none⟩ = some (.slice a0 l0.length cap0) := (P0_11.out).cell 4
  have cWx0 : w11.cell? ⟨w3.heap.size, 0, none⟩ = some (.int .i64 n0) := (Wx_11.out).cell 0
  have cWx1 : w11.cell? ⟨w3.heap.size, 1, none⟩ = some (.slice (some ⟨WK, 0, none⟩) key0.length Wd) := (Wx_11.out).cell 1
  have cWx2 : w11.cell? ⟨w3.heap.size, 2, none⟩ = some (.int .i64 b0) := (Wx_11.out).cell 2
  have cWx3 : w11.cell? ⟨w3.heap.size, 3, none⟩ = some (.int .i64 a1) := (Wx_11.out).cell 3
  have cWx4 : w11.cell? ⟨w3.heap.size, 4, none⟩ = some (.slice (some ⟨WM, 0, none⟩) Wr.length Wc) := (Wx_11.out).cell 4
  have cWy0 : w11.cell? ⟨(w3.heap.size + 1), 0, none⟩ = some (.int .i64 n0) := (Wy_11.out).cell 0
  have cWy1 : w11.cell? ⟨(w3.heap.size + 1), 1, none⟩ = some (.slice (some ⟨WK2, 0, none⟩) key0.length Wd2) := (Wy_11.out).cell 1
  have cWy2 : w11.cell? ⟨(w3.heap.size + 1), 2, none⟩ = some (.int .i64 a1) := (Wy_11.out).cell 2
  have cWy3 : w11.cell? ⟨(w3.heap.size + 1), 3, none⟩ = some (.slice (some ⟨WM2, 0, none⟩) Wr2.length Wc2) := (Wy_11.out).cell 3
  have cGx0 : w11.cell? ⟨w5.heap.size, 0, none⟩ = some (.int .i64 n0) := (Gx_11.out).cell 0
  have cGx1 : w11.cell? ⟨w5.heap.size, 1, none⟩ = some (.slice (some ⟨GK, 0, none⟩) key0.length Gd) := (Gx_11.out).cell 1
  have cGx2 : w11.cell? ⟨w5.heap.size, 2, none⟩ = some (.int .i64 b0) := (Gx_11.out).cell 2
  have cGx3 : w11.cell? ⟨w5.heap.size, 3, none⟩ = some (.int .i64 a1) := (Gx_11.out).cell 3
  have cGx4 : w11.cell? ⟨w5.heap.size, 4, none⟩ = some (.slice (some ⟨GM, Gf, none⟩) Gr.length Gc) := (Gx_11.out).cell 4
  have cGy0 : w11.cell? ⟨(w5.heap.size + 1), 0, none⟩ = some (.int .i64 n0) := (Gy_11.out).cell 0
  have cGy1 : w11.cell? ⟨(w5.heap.size + 1), 1, none⟩ = some (.slice (some ⟨GK2, 0, none⟩) key0.length Gd2) := (Gy_11.out).cell 1
  have cGy2 : w11.cell? ⟨(w5.heap.size + 1), 2, none⟩ = some (.int .i64 a1) := (Gy_11.out).cell 2
  have cGy3 : w11.cell? ⟨(w5.heap.size + 1), 3, none⟩ = some (.slice (some ⟨GM2, Gf2, none⟩) Gr2.length Gc2) := (Gy_11.out).cell 3
  go_wp2_with fail
  refine (Grp.markGroup_any n0 b0 a1 GK _ key0 GM Gf Gc 1 _ Gr w11 G_11.out K0.out.1 GS.out.2 (by omega) (by have := GS.out.1; omega)).mono ?_
  rintro e w12 ⟨rfl, hm, ho⟩
  have B12 : Hid (Below w.heap.size w w12) := B11.out.trans (ho.low (fun k hk => by have hx := GR.out k hk; have hw := B3.out.size; have h0 := Z1.out; have h1 := Z2.out; have h2 := Z3.out; have h3 := Z4.out; have h4 := Z5.out; have h5 := Z6.out; have h6 := Z7.out; have h7 := Z8.out; have h8 := Z9.out; have h9 := Z10.out; have h10 := Z11.out; have h11 := U_P0.out; have h12 := U_Wx.out; have h13 := U_Wy.out; have h14 := U_Q0.out; have h15 := U_Gx.out; have h16 := U_Gy.out; omega) B11.out.size)
  have Z12 : Hid (w11.heap.size ≤ w12.heap.size) := ho.size
  have P0_12 : Hid (Blk w12 w.heap.size #[.int .i64 n0, .slice ka0 key0.length kc0, .int .i64 b0, .int .i64 t0, .slice a0 l0.length cap0] 58) := ho.blk P0_11.out (fun hs => by have hx := GR.out _ hs; have h0 := Z1.out; have h1 := Z2.out; have h2 := Z3.out; have h3 := Z4.out; have h4 := Z5.out; have h5 := Z6.out; have h6 := Z7.out; have h7 := Z8.out; have h8 := Z9.out; have h9 := Z10.out; have h10 := Z11.out; have h11 := Z12.out; have h12 := U_P0.out; have h13 := U_Wx.out; have h14 := U_Wy.out; have h15 := U_Q0.out; have h16 := U_Gx.out; have h17 := U_Gy.out; omega)
  have W_12 : Hid (GB w2.heap.size w12 WK key0 WM 0 Wr) := W_11.out.only ho (fun k hk hs => by have hx := GR.out k hs; have hy := WR.out k hk; have h0 := Z1.out; have h1 := Z2.out; have h2 := Z3.out; have h3 := Z4.out; have h4 := Z5.out; have h5 := Z6.out; have h6 := Z7.out; have h7 := Z8.out; have h8 := Z9.out; have h9 := Z10.out; have h10 := Z11.out; have h11 := Z12.out; have h12 := U_P0.out; have h13 := U_Wx.out; have h14 := U_Wy.out; have h15 := U_Q0.out; have h16 := U_Gx.out; have h17 := U_Gy.out; omega)
  have W2_12 : Hid (GB w2.heap.size w12 WK2 key0 WM2 0 Wr2) := W2_11.out.only ho (fun k hk hs => by have hx := GR.out k hs; have hy := W2R.out k hk; have h0 := Z1.out; have h1 := Z2.out; have h2 := Z3.out; have h3 := Z4.out; have h4 := Z5.out; have h5 := Z6.out; have h6 := Z7.out; have h7 := Z8.out; have h8 := Z9.out; have h9 := Z10.out; have h10 := Z11.out; have h11 := Z12.out; have h12 := U_P0.out; have h13 := U_Wx.out; have h14 := U_Wy.out; have h15 := U_Q0.out; have h16 := U_Gx.out; have h17 := U_Gy.out; omega)
  have Wx_12 : Hid (Blk w12 w3.heap.size #[.int .i64 n0, .slice (some ⟨WK, 0, none⟩) key0.length Wd, .int .i64 b0, .int .i64 a1, .slice (some ⟨WM, 0, none⟩) Wr.length Wc] 27) := ho.blk Wx_11.out (fun hs => by have hx := GR.out _ hs; have h0 := Z1.out; have h1 := Z2.out; have h2 := Z3.out; have h3 := Z4.out; have h4 := Z5.out; have h5 := Z6.out; have h6 := Z7.out; have h7 := Z8.out; have h8 := Z9.out; have h9 := Z10.out; have h10 := Z11.out; have h11 := Z12.out; have h12 := U_P0.out; have h13 := U_Wx.out; have h14 := U_Wy.out; have h15 := U_Q0.out; have h16 := U_Gx.out; have h17 := U_Gy.out; omega)
  have Wy_12 : Hid (Blk w12 (w3.heap.size + 1) #[.int .i64 n0, .slice (some ⟨WK2, 0, none⟩) key0.length Wd2, .int .i64 a1, .slice (some ⟨WM2, 0, none⟩) Wr2.length Wc2] 36) := ho.blk Wy_11.out (fun hs => by have hx := GR.out _ hs; have h0 := Z1.out; have h1 := Z2.out; have h2 := Z3.out; have h3 := Z4.out; have h4 := Z5.out; have h5 := Z6.out; have h6 := Z7.out; have h7 := Z8.out; have h8 := Z9.out; have h9 := Z10.out; have h10 := Z11.out; have h11 := Z12.out; have h12 := U_P0.out; have h13 := U_Wx.out; have h14 := U_Wy.out; have h15 := U_Q0.out; have h16 := U_Gx.out; have h17 := U_Gy.out; omega)
  have G2_12 : Hid (GB w4.heap.size w12 GK2 key0 GM2 Gf2 Gr2) := G2_11.out.only ho (fun k hk hs => GD.out k hs hk)
  have Gx_12 : Hid (Blk w12 w5.heap.size #[.int .i64 n0, .slice (some ⟨GK, 0, none⟩) key0.length Gd, .int .i64 b0, .int .i64 a1, .slice (some ⟨GM, Gf, none⟩) Gr.length Gc] 27) := ho.blk Gx_11.out (fun hs => by have hx := GR.out _ hs; have h0 := Z1.out; have h1 := Z2.out; have h2 := Z3.out; have h3 := Z4.out; have h4 := Z5.out; have h5 := Z6.out; have h6 := Z7.out; have h7 := Z8.out; have h8 := Z9.out; have h9 := Z10.out; have h10 := Z11.out; have h11 := Z12.out; have h12 := U_P0.out; have h13 := U_Wx.out; have h14 := U_Wy.out; have h15 := U_Q0.out; have h16 := U_Gx.out; have h17 := U_Gy.out; omega)
  have Gy_12 : Hid (Blk w12 (w5.heap.size + 1) #[.int .i64 n0, .slice (some ⟨GK2, 0, none⟩) key0.length Gd2, .int .i64 a1, .slice (some ⟨GM2, Gf2, none⟩) Gr2.length Gc2] 36) := ho.blk Gy_11.out (fun hs => by have hx := GR.out _ hs; have h0 := Z1.out; have h1 := Z2.out; have h2 := Z3.out; have h3 := Z4.out; have h4 := Z5.out; have h5 := Z6.out; have h6 := Z7.out; have h7 := Z8.out; have h8 := Z9.out; have h9 := Z10.out; have h10 := Z11.out; have h11 := Z12.out; have h12 := U_P0.out; have h13 := U_Wx.out; have h14 := U_Wy.out; have h15 := U_Q0.out; have h16 := U_Gx.out; have h17 := U_Gy.out; omega)
  have H_12 : Hid (Grp.GM w12 GK key0.length GM Gf Gr 1) := hm
  clear hm
  clear ho cP00 cP01 cP02 cP03 cP04 cWx0 cWx1 cWx2 cWx3 cWx4 cWy0 cWy1 cWy2 cWy3 cGx0 cGx1 cGx2 cGx3 cGx4 cGy0 cGy1 cGy2 cGy3
  generalize hz1 : 1 + 2 * key0.length + sumA Gr = z1
  have HZ1 : Hid (1 + 2 * key0.length + sumA Gr = z1) := hz1
  clear hz1
  have hzb : 1 ≤ z1 ∧ z1 ≤ 4000000 := by have := HZ1.out; have := GS.out.1; exact ⟨by omega, by omega⟩
  have HZB : Hid (1 ≤ z1 ∧ z1 ≤ 4000000) := hzb
  clear hzb
  have cP00 : w12.cell? ⟨w.heap.size, 0, none⟩ = some (.int .i64 n0) := (P0_12.out).cell 0
  have cP01 : w12.cell? ⟨w.heap.size, 1, none⟩ = some (.slice ka0 key0.length kc0) := (P0_12.out).cell 1
  have cP02 : w12.cell? ⟨w.heap.size, 2, none⟩ = some (.int .i64 b0) := (P0_12.out).cell 2
  have cP03 : w12.cell? ⟨w.heap.size, 3, none⟩ = some (.int .i64 t0) := (P0_12.out).cell 3
  have cP04 : w12.cell? ⟨w.heap.size, 4, none⟩ = some (.slice a0 l0.length cap0) := (P0_12.out).cell 4
  have cWx0 : w12.cell? ⟨w3.heap.size, 0, none⟩ = some (.int .i64 n0) := (Wx_12.out).cell 0
  have cWx1 : w12.cell? ⟨w3.heap.size, 1, none⟩ = some (.slice (some ⟨WK, 0, none⟩) key0.length Wd) := (Wx_12.out).cell 1
  have cWx2 : w12.cell? ⟨w3.heap.size, 2, none⟩ = some (.int .i64 b0) := (Wx_12.out).cell 2
  have cWx3 : w12.cell? ⟨w3.heap.size, 3, none⟩ = some (.int .i64 a1) := (Wx_12.out).cell 3
  have cWx4 : w12.cell? ⟨w3.heap.size, 4, none⟩ = some (.slice (some ⟨WM, 0, none⟩) Wr.length Wc) := (Wx_12.out).cell 4
  have cWy0 : w12.cell? ⟨(w3.heap.size + 1), 0, none⟩ = some (.int .i64 n0) := (Wy_12.out).cell 0
  have cWy1 : w12.cell? ⟨(w3.heap.size + 1), 1, none⟩ = some (.slice (some ⟨WK2, 0, none⟩) key0.length Wd2) := (Wy_12.out).cell 1
  have cWy2 : w12.cell? ⟨(w3.heap.size + 1), 2, none⟩ = some (.int .i64 a1) := (Wy_12.out).cell 2
  have cWy3 : w12.cell? ⟨(w3.heap.size + 1), 3, none⟩ = some (.slice (some ⟨WM2, 0, none⟩) Wr2.length Wc2) := (Wy_12.out).cell 3
  have cGx0 : w12.cell? ⟨w5.heap.size, 0, none⟩ = some (.int .i64 n0) := (Gx_12.out).cell 0
  have cGx1 : w12.cell? ⟨w5.heap.size, 1, none⟩ = some (.slice (some ⟨GK, 0, none⟩) key0.length Gd) := (Gx_12.out).cell 1
  have cGx2 : w12.cell? ⟨w5.heap.size, 2, none⟩ = some (.int .i64 b0) := (Gx_12.out).cell 2
  have cGx3 : w12.cell? ⟨w5.heap.size, 3, none⟩ = some (.int .i64 a1) := (Gx_12.out).cell 3
  have cGx4 : w12.cell? ⟨w5.heap.size, 4, none⟩ = some (.slice (some ⟨GM, Gf, none⟩) Gr.length Gc) := (Gx_12.out).cell 4
  have cGy0 : w12.cell? ⟨(w5.heap.size + 1), 0, none⟩ = some (.int .i64 n0) := (Gy_12.out).cell 0
  have cGy1 : w12.cell? ⟨(w5.heap.size + 1), 1, none⟩ = some (.slice (some ⟨GK2, 0, none⟩) key0.length Gd2) := (Gy_12.out).cell 1
  have cGy2 : w12.cell? ⟨(w5.heap.size + 1), 2, none⟩ = some (.int .i64 a1) := (Gy_12.out).cell 2
  have cGy3 : w12.cell? ⟨(w5.heap.size + 1), 3, none⟩ = some (.slice (some ⟨GM2, Gf2, none⟩) Gr2.length Gc2) := (Gy_12.out).cell 3
  go_wp2_with fail
  refine (Grp.markBatch_any n0 a1 GK2 _ key0 GM2 Gf2 Gc2 z1 _ Gr2 w12 G2_12.out K0.out.1 G2S.out.2 HZB.out.1 (by have := HZB.out.2; have := G2S.out.1; omega)).mono ?_
  rintro e w13 ⟨rfl, hm, ho⟩
  have B13 : Hid (Below w.heap.size w w13) := B12.out.trans (ho.low (fun k hk => by have hx := G2R.out k hk; have hw := B3.out.size; have h0 := Z1.out; have h1 := Z2.out; have h2 := Z3.out; have h3 := Z4.out; have h4 := Z5.out; have h5 := Z6.out; have h6 := Z7.out; have h7 := Z8.out; have h8 := Z9.out; have h9 := Z10.out; have h10 := Z11.out; have h11 := U_P0.out; have h12 := U_Wx.out; have h13 := U_Wy.out; have h14 := U_Q0.out; have h15 := U_Gx.out; have h16 := U_Gy.out; omega) B12.out.size)
  have Z13 : Hid (w12.heap.size ≤ w13.heap.size) := ho.size
  have P0_13 : Hid (Blk w13 w.heap.size #[.int .i64 n0, .slice ka0 key0.length kc0, .int .i64 b0, .int .i64 t0, .slice a0 l0.length cap0] 58) := ho.blk P0_12.out (fun hs => by have hx := G2R.out _ hs; have h0 := Z1.out; have h1 := Z2.out; have h2 := Z3.out; have h3 := Z4.out; have h4 := Z5.out; have h5 := Z6.out; have h6 := Z7.out; have h7 := Z8.out; have h8 := Z9.out; have h9 := Z10.out; have h10 := Z11.out; have h11 := Z12.out; have h12 := Z13.out; have h13 := U_P0.out; have h14 := U_Wx.out; have h15 := U_Wy.out; have h16 := U_Q0.out; have h17 := U_Gx.out; have h18 := U_Gy.out; omega)
  have W_13 : Hid (GB w2.heap.size w13 WK key0 WM 0 Wr) := W_12.out.only ho (fun k hk hs => by have hx := G2R.out k hs; have hy := WR.out k hk; have h0 := Z1.out; have h1 := Z2.out; have h2 := Z3.out; have h3 := Z4.out; have h4 := Z5.out; have h5 := Z6.out; have h6 := Z7.out; have h7 := Z8.out; have h8 := Z9.out; have h9 := Z10.out; have h10 := Z11.out; have h11 := Z12.out; have h12 := Z13.out; have h13 := U_P0.out; have h14 := U_Wx.out; have h15 := U_Wy.out; have h16 := U_Q0.out; have h17 := U_Gx.out; have h18 := U_Gy.out; omega)
  have W2_13 : Hid (GB w2.heap.size w13 WK2 key0 WM2 0 Wr2) := W2_12.out.only ho (fun k hk hs => by have hx := G2R.out k hs; have hy := W2R.out k hk; have h0 := Z1.out; have h1 := Z2.out; have h2 := Z3.out; have h3 := Z4.out; have h4 := Z5.out; have h5 := Z6.out; have h6 := Z7.out; have h7 := Z8.out; have h8 := Z9.out; have h9 := Z10.out; have h10 := Z11.out; have h11 := Z12.out; have h12 := Z13.out; have h13 := U_P0.out; have h14 := U_Wx.out; have h15 := U_Wy.out; have h16 := U_Q0.out; have h17 := U_Gx.out; have h18 := U_Gy.out; omega)
  have Wx_13 : Hid (Blk w13 w3.heap.size #[.int .i64 n0, .slice (some ⟨WK, 0, none⟩) key0.length Wd, .int .i64 b0, .int .i64 a1, .slice (some ⟨WM, 0, none⟩) Wr.length Wc] 27) := ho.blk Wx_12.out (fun hs => by have hx := G2R.out _ hs; have h0 := Z1.out; have h1 := Z2.out; have h2 := Z3.out; have h3 := Z4.out; have h4 := Z5.out; have h5 := Z6.out; have h6 := Z7.out; have h7 := Z8.out; have h8 := Z9.out; have h9 := Z10.out; have h10 := Z11.out; have h11 := Z12.out; have h12 := Z13.out; have h13 := U_P0.out; have h14 := U_Wx.out; have h15 := U_Wy.out; have h16 := U_Q0.out; have h17 := U_Gx.out; have h18 := U_Gy.out; omega)
  have Wy_13 : Hid (Blk w13 (w3.heap.size + 1) #[.int .i64 n0, .slice (some ⟨WK2, 0, none⟩) key0.length Wd2, .int .i64 a1, .slice (some ⟨WM2, 0, none⟩) Wr2.length Wc2] 36) := ho.blk Wy_12.out (fun hs => by have hx := G2R.out _ hs; have h0 := Z1.out; have h1 := Z2.out; have h2 := Z3.out; have h3 := Z4.out; have h4 := Z5.out; have h5 := Z6.out; have h6 := Z7.out; have h7 := Z8.out; have h8 := Z9.out; have h9 := Z10.out; have h10 := Z11.out; have h11 := Z12.out; have h12 := Z13.out; have h13 := U_P0.out; have h14 := U_Wx.out; have h15 := U_Wy.out; have h16 := U_Q0.out; have h17 := U_Gx.out; have h18 := U_Gy.out; omega)
  have Gx_13 : Hid (Blk w13 w5.heap.size #[.int .i64 n0, .slice (some ⟨GK, 0, none⟩) key0.length Gd, .int .i64 b0, .int .i64 a1, .slice (some ⟨GM, Gf, none⟩) Gr.length Gc] 27) := ho.blk Gx_12.out (fun hs => by have hx := G2R.out _ hs; have h0 := Z1.out; have h1 := Z2.out; have h2 := Z3.out; have h3 := Z4.out; have h4 := Z5.out; have h5 := Z6.out; have h6 := Z7.out; have h7 := Z8.out; have h8 := Z9.out; have h9 := Z10.out; have h10 := Z11.out; have h11 := Z12.out; have h12 := Z13.out; have h13 := U_P0.out; have h14 := U_Wx.out; have h15 := U_Wy.out; have h16 := U_Q0.out; have h17 := U_Gx.out; have h18 := U_Gy.out; omega)
  have Gy_13 : Hid (Blk w13 (w5.heap.size + 1) #[.int .i64 n0, .slice (some ⟨GK2, 0, none⟩) key0.length Gd2, .int .i64 a1, .slice (some ⟨GM2, Gf2, none⟩) Gr2.length Gc2] 36) := ho.blk Gy_12.out (fun hs => by have hx := G2R.out _ hs; have h0 := Z1.out; have h1 := Z2.out; have h2 := Z3.out; have h3 := Z4.out; have h4 := Z5.out; have h5 := Z6.out; have h6 := Z7.out; have h7 := Z8.out; have h8 := Z9.out; have h9 := Z10.out; have h10 := Z11.out; have h11 := Z12.out; have h12 := Z13.out; have h13 := U_P0.out; have h14 := U_Wx.out; have h15 := U_Wy.out; have h16 := U_Q0.out; have h17 := U_Gx.out; have h18 := U_Gy.out; omega)
  have H_13 : Hid (Grp.GM w13 GK key0.length GM Gf Gr 1) := H_12.out.only ho (fun k hk hs => GD.out k hk hs)
  have H2_13 : Hid (Grp.GM w13 GK2 key0.length GM2 Gf2 Gr2 z1) := hm
  clear hm
  clear ho cP00 cP01 cP02 cP03 cP04 cWx0 cWx1 cWx2 cWx3 cWx4 cWy0 cWy1 cWy2 cWy3 cGx0 cGx1 cGx2 cGx3 cGx4 cGy0 cGy1 cGy2 cGy3
  generalize hz2 : z1 + 2 * key0.length + sumA Gr2 = z2
  have HZ2 : Hid (z1 + 2 * key0.length + sumA Gr2 = z2) := hz2
  clear hz2
  have hH1 : Hid (Calls Try.prog 45 #[.agg #[.int .i64 n0, .slice (some ⟨GK, 0, none⟩) key0.length Gd, .int .i64 b0, .int .i64 a1, .slice (some ⟨GM, Gf, none⟩) Gr.length Gc], .int .i64 1] w13 fun e w' => e = .returned (.int .i64 (z1 : Int)) ∧ Below w13.heap.size w13 w') := (Grp.heldGroup_any n0 b0 a1 GK Gd key0 GM Gf Gc 1 Gr w13 H_13.out GL.out K0.out.1 GS.out.2 (by omega) (by have := GS.out.1; omega)).mono (fun e w' h => ⟨h.1.trans (Mark.retI (by have := HZ1.out; omega)), h.2⟩)
  have hq1 : ¬ (z1 : Int) < 0 := by omega
  have hq2 : ¬ (z2 : Int) < 0 := by omega
  have cP00 : w13.cell? ⟨w.heap.size, 0, none⟩ = some (.int .i64 n0) := (P0_13.out).cell 0
  have cP01 : w13.cell? ⟨w.heap.size, 1, none⟩ = some (.slice ka0 key0.length kc0) := (P0_13.out).cell 1
  have cP02 : w13.cell? ⟨w.heap.size, 2, none⟩ = some (.int .i64 b0) := (P0_13.out).cell 2
  have cP03 : w13.cell? ⟨w.heap.size, 3, none⟩ = some (.int .i64 t0) := (P0_13.out).cell 3
  have cP04 : w13.cell? ⟨w.heap.size, 4, none⟩ = some (.slice a0 l0.length cap0) := (P0_13.out).cell 4
  have cWx0 : w13.cell? ⟨w3.heap.size, 0, none⟩ = some (.int .i64 n0) := (Wx_13.out).cell 0
  have cWx1 : w13.cell? ⟨w3.heap.size, 1, none⟩ = some (.slice (some ⟨WK, 0, none⟩) key0.length Wd) := (Wx_13.out).cell 1
  have cWx2 : w13.cell? ⟨w3.heap.size, 2, none⟩ = some (.int .i64 b0) := (Wx_13.out).cell 2
  have cWx3 : w13.cell? ⟨w3.heap.size, 3, none⟩ = some (.int .i64 a1) := (Wx_13.out).cell 3
  have cWx4 : w13.cell? ⟨w3.heap.size, 4, none⟩ = some (.slice (some ⟨WM, 0, none⟩) Wr.length Wc) := (Wx_13.out).cell 4
  have cWy0 : w13.cell? ⟨(w3.heap.size + 1), 0, none⟩ = some (.int .i64 n0) := (Wy_13.out).cell 0
  have cWy1 : w13.cell? ⟨(w3.heap.size + 1), 1, none⟩ = some (.slice (some ⟨WK2, 0, none⟩) key0.length Wd2) := (Wy_13.out).cell 1
  have cWy2 : w13.cell? ⟨(w3.heap.size + 1), 2, none⟩ = some (.int .i64 a1) := (Wy_13.out).cell 2
  have cWy3 : w13.cell? ⟨(w3.heap.size + 1), 3, none⟩ = some (.slice (some ⟨WM2, 0, none⟩) Wr2.length Wc2) := (Wy_13.out).cell 3
  have cGx0 : w13.cell? ⟨w5.heap.size, 0, none⟩ = some (.int .i64 n0) := (Gx_13.out).cell 0
  have cGx1 : w13.cell? ⟨w5.heap.size, 1, none⟩ = some (.slice (some ⟨GK, 0, none⟩) key0.length Gd) := (Gx_13.out).cell 1
  have cGx2 : w13.cell? ⟨w5.heap.size, 2, none⟩ = some (.int .i64 b0) := (Gx_13.out).cell 2
  have cGx3 : w13.cell? ⟨w5.heap.size, 3, none⟩ = some (.int .i64 a1) := (Gx_13.out).cell 3
  have cGx4 : w13.cell? ⟨w5.heap.size, 4, none⟩ = some (.slice (some ⟨GM, Gf, none⟩) Gr.length Gc) := (Gx_13.out).cell 4
  have cGy0 : w13.cell? ⟨(w5.heap.size + 1), 0, none⟩ = some (.int .i64 n0) := (Gy_13.out).cell 0
  have cGy1 : w13.cell? ⟨(w5.heap.size + 1), 1, none⟩ = some (.slice (some ⟨GK2, 0, none⟩) key0.length Gd2) := (Gy_13.out).cell 1
  have cGy2 : w13.cell? ⟨(w5.heap.size + 1), 2, none⟩ = some (.int .i64 a1) := (Gy_13.out).cell 2
  have cGy3 : w13.cell? ⟨(w5.heap.size + 1), 3, none⟩ = some (.slice (some ⟨GM2, Gf2, none⟩) Gr2.length Gc2) := (Gy_13.out).cell 3
  go_wp2_with fail
  refine (hH1.out).mono ?_
  rintro e w14 ⟨rfl, hb⟩
  have B14 : Hid (Below w.heap.size w w14) := grow_on B13.out hb
  have Z14 : Hid (w13.heap.size ≤ w14.heap.size) := hb.size
  have P0_14 : Hid (Blk w14 w.heap.size #[.int .i64 n0, .slice ka0 key0.length kc0, .int .i64 b0, .int .i64 t0, .slice a0 l0.length cap0] 58) := P0_13.out.grow hb
  have W_14 : Hid (GB w2.heap.size w14 WK key0 WM 0 Wr) := W_13.out.grow hb
  have W2_14 : Hid (GB w2.heap.size w14 WK2 key0 WM2 0 Wr2) := W2_13.out.grow hb
  have Wx_14 : Hid (Blk w14 w3.heap.size #[.int .i64 n0, .slice (some ⟨WK, 0, none⟩) key0.length Wd, .int .i64 b0, .int .i64 a1, .slice (some ⟨WM, 0, none⟩) Wr.length Wc] 27) := Wx_13.out.grow hb
  have Wy_14 : Hid (Blk w14 (w3.heap.size + 1) #[.int .i64 n0, .slice (some ⟨WK2, 0, none⟩) key0.length Wd2, .int .i64 a1, .slice (some ⟨WM2, 0, none⟩) Wr2.length Wc2] 36) := Wy_13.out.grow hb
  have Gx_14 : Hid (Blk w14 w5.heap.size #[.int .i64 n0, .slice (some ⟨GK, 0, none⟩) key0.length Gd, .int .i64 b0, .int .i64 a1, .slice (some ⟨GM, Gf, none⟩) Gr.length Gc] 27) := Gx_13.out.grow hb
  have Gy_14 : Hid (Blk w14 (w5.heap.size + 1) #[.int .i64 n0, .slice (some ⟨GK2, 0, none⟩) key0.length Gd2, .int .i64 a1, .slice (some ⟨GM2, Gf2, none⟩) Gr2.length Gc2] 36) := Gy_13.out.grow hb
  have H_14 : Hid (Grp.GM w14 GK key0.length GM Gf Gr 1) := H_13.out.grow hb
  have H2_14 : Hid (Grp.GM w14 GK2 key0.length GM2 Gf2 Gr2 z1) := H2_13.out.grow hb
  clear hb cP00 cP01 cP02 cP03 cP04 cWx0 cWx1 cWx2 cWx3 cWx4 cWy0 cWy1 cWy2 cWy3 cGx0 cGx1 cGx2 cGx3 cGx4 cGy0 cGy1 cGy2 cGy3 hH1
  have hH2 : Hid (Calls Try.prog 47 #[.agg #[.int .i64 n0, .slice (some ⟨GK2, 0, none⟩) key0.length Gd2, .int .i64 a1, .slice (some ⟨GM2, Gf2, none⟩) Gr2.length Gc2], .int .i64 (z1 : Int)] w14 fun e w' => e = .returned (.int .i64 (z2 : Int)) ∧ Below w14.heap.size w14 w') := (Grp.heldBatch_any n0 a1 GK2 Gd2 key0 GM2 Gf2 Gc2 z1 Gr2 w14 H2_14.out G2L.out K0.out.1 G2S.out.2 HZB.out.1 (by have := HZB.out.2; have := G2S.out.1; omega)).mono (fun e w' h => ⟨h.1.trans (Mark.retI (by have := HZ2.out; omega)), h.2⟩)
  have cP00 : w14.cell? ⟨w.heap.size, 0, none⟩ = some (.int .i64 n0) := (P0_14.out).cell 0
  have cP01 : w14.cell? ⟨w.heap.size, 1, none⟩ = some (.slice ka0 key0.length kc0) := (P0_14.out).cell 1
  have cP02 : w14.cell? ⟨w.heap.size, 2, none⟩ = some (.int .i64 b0) := (P0_14.out).cell 2
  have cP03 : w14.cell? ⟨w.heap.size, 3, none⟩ = some (.int .i64 t0) := (P0_14.out).cell 3
  have cP04 : w14.cell? ⟨w.heap.size, 4, none⟩ = some (.slice a0 l0.length cap0) := (P0_14.out).cell 4
  have cWx0 : w14.cell? ⟨w3.heap.size, 0, none⟩ = some (.int .i64 n0) := (Wx_14.out).cell 0
  have cWx1 : w14.cell? ⟨w3.heap.size, 1, none⟩ = some (.slice (some ⟨WK, 0, none⟩) key0.length Wd) := (Wx_14.out).cell 1
  have cWx2 : w14.cell? ⟨w3.heap.size, 2, none⟩ = some (.int .i64 b0) := (Wx_14.out).cell 2
  have cWx3 : w14.cell? ⟨w3.heap.size, 3, none⟩ = some (.int .i64 a1) := (Wx_14.out).cell 3
  have cWx4 : w14.cell? ⟨w3.heap.size, 4, none⟩ = some (.slice (some ⟨WM, 0, none⟩) Wr.length Wc) := (Wx_14.out).cell 4
  have cWy0 : w14.cell? ⟨(w3.heap.size + 1), 0, none⟩ = some (.int .i64 n0) := (Wy_14.out).cell 0
  have cWy1 : w14.cell? ⟨(w3.heap.size + 1), 1, none⟩ = some (.slice (some ⟨WK2, 0, none⟩) key0.length Wd2) := (Wy_14.out).cell 1
  have cWy2 : w14.cell? ⟨(w3.heap.size + 1), 2, none⟩ = some (.int .i64 a1) := (Wy_14.out).cell 2
  have cWy3 : w14.cell? ⟨(w3.heap.size + 1), 3, none⟩ = some (.slice (some ⟨WM2, 0, none⟩) Wr2.length Wc2) := (Wy_14.out).cell 3
  have cGx0 : w14.cell? ⟨w5.heap.size, 0, none⟩ = some (.int .i64 n0) := (Gx_14.out).cell 0
  have cGx1 : w14.cell? ⟨w5.heap.size, 1, none⟩ = some (.slice (some ⟨GK, 0, none⟩) key0.length Gd) := (Gx_14.out).cell 1
  have cGx2 : w14.cell? ⟨w5.heap.size, 2, none⟩ = some (.int .i64 b0) := (Gx_14.out).cell 2
  have cGx3 : w14.cell? ⟨w5.heap.size, 3, none⟩ = some (.int .i64 a1) := (Gx_14.out).cell 3
  have cGx4 : w14.cell? ⟨w5.heap.size, 4, none⟩ = some (.slice (some ⟨GM, Gf, none⟩) Gr.length Gc) := (Gx_14.out).cell 4
  have cGy0 : w14.cell? ⟨(w5.heap.size + 1), 0, none⟩ = some (.int .i64 n0) := (Gy_14.out).cell 0
  have cGy1 : w14.cell? ⟨(w5.heap.size + 1), 1, none⟩ = some (.slice (some ⟨GK2, 0, none⟩) key0.length Gd2) := (Gy_14.out).cell 1
  have cGy2 : w14.cell? ⟨(w5.heap.size + 1), 2, none⟩ = some (.int .i64 a1) := (Gy_14.out).cell 2
  have cGy3 : w14.cell? ⟨(w5.heap.size + 1), 3, none⟩ = some (.slice (some ⟨GM2, Gf2, none⟩) Gr2.length Gc2) := (Gy_14.out).cell 3
  go_wp2_with fail
  refine (hH2.out).mono ?_
  rintro e w15 ⟨rfl, hb⟩
  have B15 : Hid (Below w.heap.size w w15) := grow_on B14.out hb
  have Z15 : Hid (w14.heap.size ≤ w15.heap.size) := hb.size
  have P0_15 : Hid (Blk w15 w.heap.size #[.int .i64 n0, .slice ka0 key0.length kc0, .int .i64 b0, .int .i64 t0, .slice a0 l0.length cap0] 58) := P0_14.out.grow hb
  have W_15 : Hid (GB w2.heap.size w15 WK key0 WM 0 Wr) := W_14.out.grow hb
  have W2_15 : Hid (GB w2.heap.size w15 WK2 key0 WM2 0 Wr2) := W2_14.out.grow hb
  have Wx_15 : Hid (Blk w15 w3.heap.size #[.int .i64 n0, .slice (some ⟨WK, 0, none⟩) key0.length Wd, .int .i64 b0, .int .i64 a1, .slice (some ⟨WM, 0, none⟩) Wr.length Wc] 27) := Wx_14.out.grow hb
  have Wy_15 : Hid (Blk w15 (w3.heap.size + 1) #[.int .i64 n0, .slice (some ⟨WK2, 0, none⟩) key0.length Wd2, .int .i64 a1, .slice (some ⟨WM2, 0, none⟩) Wr2.length Wc2] 36) := Wy_14.out.grow hb
  have Gx_15 : Hid (Blk w15 w5.heap.size #[.int .i64 n0, .slice (some ⟨GK, 0, none⟩) key0.length Gd, .int .i64 b0, .int .i64 a1, .slice (some ⟨GM, Gf, none⟩) Gr.length Gc] 27) := Gx_14.out.grow hb
  have Gy_15 : Hid (Blk w15 (w5.heap.size + 1) #[.int .i64 n0, .slice (some ⟨GK2, 0, none⟩) key0.length Gd2, .int .i64 a1, .slice (some ⟨GM2, Gf2, none⟩) Gr2.length Gc2] 36) := Gy_14.out.grow hb
  have H_15 : Hid (Grp.GM w15 GK key0.length GM Gf Gr 1) := H_14.out.grow hb
  have H2_15 : Hid (Grp.GM w15 GK2 key0.length GM2 Gf2 Gr2 z1) := H2_14.out.grow hb
  clear hb cP00 cP01 cP02 cP03 cP04 cWx0 cWx1 cWx2 cWx3 cWx4 cWy0 cWy1 cWy2 cWy3 cGx0 cGx1 cGx2 cGx3 cGx4 cGy0 cGy1 cGy2 cGy3 hH2 hq1
  clear hq2
  have cP00 : w15.cell? ⟨w.heap.size, 0, none⟩ = some (.int .i64 n0) := (P0_15.out).cell 0
  have cP01 : w15.cell? ⟨w.heap.size, 1, none⟩ = some (.slice ka0 key0.length kc0) := (P0_15.out).cell 1
  have cP02 : w15.cell? ⟨w.heap.size, 2, none⟩ = some (.int .i64 b0) := (P0_15.out).cell 2
  have cP03 : w15.cell? ⟨w.heap.size, 3, none⟩ = some (.int .i64 t0) := (P0_15.out).cell 3
  have cP04 : w15.cell? ⟨w.heap.size, 4, none⟩ = some (.slice a0 l0.length cap0) := (P0_15.out).cell 4
  have cWx0 : w15.cell? ⟨w3.heap.size, 0, none⟩ = some (.int .i64 n0) := (Wx_15.out).cell 0
  have cWx1 : w15.cell? ⟨w3.heap.size, 1, none⟩ = some (.slice (some ⟨WK, 0, none⟩) key0.length Wd) := (Wx_15.out).cell 1
  have cWx2 : w15.cell? ⟨w3.heap.size, 2, none⟩ = some (.int .i64 b0) := (Wx_15.out).cell 2
  have cWx3 : w15.cell? ⟨w3.heap.size, 3, none⟩ = some (.int .i64 a1) := (Wx_15.out).cell 3
  have cWx4 : w15.cell? ⟨w3.heap.size, 4, none⟩ = some (.slice (some ⟨WM, 0, none⟩) Wr.length Wc) := (Wx_15.out).cell 4
  have cWy0 : w15.cell? ⟨(w3.heap.size + 1), 0, none⟩ = some (.int .i64 n0) := (Wy_15.out).cell 0
  have cWy1 : w15.cell? ⟨(w3.heap.size + 1), 1, none⟩ = some (.slice (some ⟨WK2, 0, none⟩) key0.length Wd2) := (Wy_15.out).cell 1
  have cWy2 : w15.cell? ⟨(w3.heap.size + 1), 2, none⟩ = some (.int .i64 a1) := (Wy_15.out).cell 2
  have cWy3 : w15.cell? ⟨(w3.heap.size + 1), 3, none⟩ = some (.slice (some ⟨WM2, 0, none⟩) Wr2.length Wc2) := (Wy_15.out).cell 3
  have cGx0 : w15.cell? ⟨w5.heap.size, 0, none⟩ = some (.int .i64 n0) := (Gx_15.out).cell 0
  have cGx1 : w15.cell? ⟨w5.heap.size, 1, none⟩ = some (.slice (some ⟨GK, 0, none⟩) key0.length Gd) := (Gx_15.out).cell 1
  have cGx2 : w15.cell? ⟨w5.heap.size, 2, none⟩ = some (.int .i64 b0) := (Gx_15.out).cell 2
  have cGx3 : w15.cell? ⟨w5.heap.size, 3, none⟩ = some (.int .i64 a1) := (Gx_15.out).cell 3
  have cGx4 : w15.cell? ⟨w5.heap.size, 4, none⟩ = some (.slice (some ⟨GM, Gf, none⟩) Gr.length Gc) := (Gx_15.out).cell 4
  have cGy0 : w15.cell? ⟨(w5.heap.size + 1), 0, none⟩ = some (.int .i64 n0) := (Gy_15.out).cell 0
  have cGy1 : w15.cell? ⟨(w5.heap.size + 1), 1, none⟩ = some (.slice (some ⟨GK2, 0, none⟩) key0.length Gd2) := (Gy_15.out).cell 1
  have cGy2 : w15.cell? ⟨(w5.heap.size + 1), 2, none⟩ = some (.int .i64 a1) := (Gy_15.out).cell 2
  have cGy3 : w15.cell? ⟨(w5.heap.size + 1), 3, none⟩ = some (.slice (some ⟨GM2, Gf2, none⟩) Gr2.length Gc2) := (Gy_15.out).cell 3
  go_wp2_with fail
  refine (Grp.toGroup_any n0 b0 t0 ka0 kc0 key0 a0 cap0 l0 _ (U0.out.below B15.out) K0.out.1 (R0.out.below B15.out) K0.out.2.1 K0.out.2.2.1).mono ?_
  rintro e w16 ⟨⟨CK, CM, Cr, rfl, hG, hA, hP⟩, hb⟩
  have C_16 : Hid (GB w15.heap.size w16 CK key0 CM 0 Cr) := hG.down (by first | omega | (simp; omega))
  have CP : Hid (pals Cr = l0) := hP
  have CR : Hid (∀ k, gblks CK CM Cr k → w15.heap.size + 2 < k ∧ k < w16.heap.size) := fun k hk => by have := hG.rng k hk; (try simp at this); omega
  have CL : Hid (∀ x ∈ Cr, x.2.2.l.length ≤ 1048576) := hG.len
  clear hG hA hP
  have B16 : Hid (Below w.heap.size w w16) := grow_on B15.out hb
  have Z16 : Hid (w15.heap.size ≤ w16.heap.size) := hb.size
  have P0_16 : Hid (Blk w16 w.heap.size #[.int .i64 n0, .slice ka0 key0.length kc0, .int .i64 b0, .int .i64 t0, .slice a0 l0.length cap0] 58) := P0_15.out.grow hb
  have W_16 : Hid (GB w2.heap.size w16 WK key0 WM 0 Wr) := W_15.out.grow hb
  have W2_16 : Hid (GB w2.heap.size w16 WK2 key0 WM2 0 Wr2) := W2_15.out.grow hb
  have Wx_16 : Hid (Blk w16 w3.heap.size #[.int .i64 n0, .slice (some ⟨WK, 0, none⟩) key0.length Wd, .int .i64 b0, .int .i64 a1, .slice (some ⟨WM, 0, none⟩) Wr.length Wc] 27) := Wx_15.out.grow hb
  have Wy_16 : Hid (Blk w16 (w3.heap.size + 1) #[.int .i64 n0, .slice (some ⟨WK2, 0, none⟩) key0.length Wd2, .int .i64 a1, .slice (some ⟨WM2, 0, none⟩) Wr2.length Wc2] 36) := Wy_15.out.grow hb
  have Gx_16 : Hid (Blk w16 w5.heap.size #[.int .i64 n0, .slice (some ⟨GK, 0, none⟩) key0.length Gd, .int .i64 b0, .int .i64 a1, .slice (some ⟨GM, Gf, none⟩) Gr.length Gc] 27) := Gx_15.out.grow hb
  have Gy_16 : Hid (Blk w16 (w5.heap.size + 1) #[.int .i64 n0, .slice (some ⟨GK2, 0, none⟩) key0.length Gd2, .int .i64 a1, .slice (some ⟨GM2, Gf2, none⟩) Gr2.length Gc2] 36) := Gy_15.out.grow hb
  have H_16 : Hid (Grp.GM w16 GK key0.length GM Gf Gr 1) := H_15.out.grow hb
  have H2_16 : Hid (Grp.GM w16 GK2 key0.length GM2 Gf2 Gr2 z1) := H2_15.out.grow hb
  clear hb cP00 cP01 cP02 cP03 cP04 cWx0 cWx1 cWx2 cWx3 cWx4 cWy0 cWy1 cWy2 cWy3 cGx0 cGx1 cGx2 cGx3 cGx4 cGy0 cGy1 cGy2 cGy3
  have cP00 : w16.cell? ⟨w.heap.size, 0, none⟩ = some (.int .i64 n0) := (P0_16.out).cell 0
  have cP01 : w16.cell? ⟨w.heap.size, 1, none⟩ = some (.slice ka0 key0.length kc0) := (P0_16.out).cell 1
  have cP02 : w16.cell? ⟨w.heap.size, 2, none⟩ = some (.int .i64 b0) := (P0_16.out).cell 2
  have cP03 : w16.cell? ⟨w.heap.size, 3, none⟩ = some (.int .i64 t0) := (P0_16.out).cell 3
  have cP04 : w16.cell? ⟨w.heap.size, 4, none⟩ = some (.slice a0 l0.length cap0) := (P0_16.out).cell 4
  have cWx0 : w16.cell? ⟨w3.heap.size, 0, none⟩ = some (.int .i64 n0) := (Wx_16.out).cell 0
  have cWx1 : w16.cell? ⟨w3.heap.size, 1, none⟩ = some (.slice (some ⟨WK, 0, none⟩) key0.length Wd) := (Wx_16.out).cell 1
  have cWx2 : w16.cell? ⟨w3.heap.size, 2, none⟩ = some (.int .i64 b0) := (Wx_16.out).cell 2
  have cWx3 : w16.cell? ⟨w3.heap.size, 3, none⟩ = some (.int .i64 a1) := (Wx_16.out).cell 3
  have cWx4 : w16.cell? ⟨w3.heap.size, 4, none⟩ = some (.slice (some ⟨WM, 0, none⟩) Wr.length Wc) := (Wx_16.out).cell 4
  have cWy0 : w16.cell? ⟨(w3.heap.size + 1), 0, none⟩ = some (.int .i64 n0) := (Wy_16.out).cell 0
  have cWy1 : w16.cell? ⟨(w3.heap.size + 1), 1, none⟩ = some (.slice (some ⟨WK2, 0, none⟩) key0.length Wd2) := (Wy_16.out).cell 1
  have cWy2 : w16.cell? ⟨(w3.heap.size + 1), 2, none⟩ = some (.int .i64 a1) := (Wy_16.out).cell 2
  have cWy3 : w16.cell? ⟨(w3.heap.size + 1), 3, none⟩ = some (.slice (some ⟨WM2, 0, none⟩) Wr2.length Wc2) := (Wy_16.out).cell 3
  have cGx0 : w16.cell? ⟨w5.heap.size, 0, none⟩ = some (.int .i64 n0) := (Gx_16.out).cell 0
  have cGx1 : w16.cell? ⟨w5.heap.size, 1, none⟩ = some (.slice (some ⟨GK, 0, none⟩) key0.length Gd) := (Gx_16.out).cell 1
  have cGx2 : w16.cell? ⟨w5.heap.size, 2, none⟩ = some (.int .i64 b0) := (Gx_16.out).cell 2
  have cGx3 : w16.cell? ⟨w5.heap.size, 3, none⟩ = some (.int .i64 a1) := (Gx_16.out).cell 3
  have cGx4 : w16.cell? ⟨w5.heap.size, 4, none⟩ = some (.slice (some ⟨GM, Gf, none⟩) Gr.length Gc) := (Gx_16.out).cell 4
  have cGy0 : w16.cell? ⟨(w5.heap.size + 1), 0, none⟩ = some (.int .i64 n0) := (Gy_16.out).cell 0
  have cGy1 : w16.cell? ⟨(w5.heap.size + 1), 1, none⟩ = some (.slice (some ⟨GK2, 0, none⟩) key0.length Gd2) := (Gy_16.out).cell 1
  have cGy2 : w16.cell? ⟨(w5.heap.size + 1), 2, none⟩ = some (.int .i64 a1) := (Gy_16.out).cell 2
  have cGy3 : w16.cell? ⟨(w5.heap.size + 1), 3, none⟩ = some (.slice (some ⟨GM2, Gf2, none⟩) Gr2.length Gc2) := (Gy_16.out).cell 3
  go_wp2_with fail
  refine (implF n0 b0 t0 _ _ _ key0 _ _ l0 FL a1 HF.out _ (C_16.out.key.rd) K0.out.1 ((rdP C_16.out CP.out)) K0.out.2.1 N0.out).mono ?_
  rintro e w17 ⟨⟨VK, Vd, VM, Vf, Vc, Vr, VK2, Vd2, VM2, Vf2, Vc2, Vr2, rfl, hG, hP, hG2, hP2, hD⟩, hb⟩
  have V_17 : Hid (GB w16.heap.size w17 VK key0 VM Vf Vr) := hG.down (by first | exact Nat.le_refl _ | simp)
  have V2_17 : Hid (GB w16.heap.size w17 VK2 key0 VM2 Vf2 Vr2) := hG2.down (by first | exact Nat.le_refl _ | simp)
  have VP : Hid (pals Vr = FL) := hP
  have V2P : Hid (pals Vr2 = l0) := hP2
  have VR : Hid (∀ k, gblks VK VM Vr k → w16.heap.size ≤ k ∧ k < w17.heap.size) := fun k hk => by have := hG.rng k hk; (try simp at this); omega
  have V2R : Hid (∀ k, gblks VK2 VM2 Vr2 k → w16.heap.size ≤ k ∧ k < w17.heap.size) := fun k hk => by have := hG2.rng k hk; (try simp at this); omega
  have VL : Hid (∀ x ∈ Vr, x.2.2.l.length ≤ 1048576) := hG.len
  have V2L : Hid (∀ x ∈ Vr2, x.2.2.l.length ≤ 1048576) := hG2.len
  have VD : Hid (∀ k, gblks VK VM Vr k → ¬ gblks VK2 VM2 Vr2 k) := hD
  clear hD
  clear hG hP hG2 hP2
  have B17 : Hid (Below w.heap.size w w17) := grow_on B16.out hb
  have Z17 : Hid (w16.heap.size ≤ w17.heap.size) := hb.size
  have P0_17 : Hid (Blk w17 w.heap.size #[.int .i64 n0, .slice ka0 key0.length kc0, .int .i64 b0, .int .i64 t0, .slice a0 l0.length cap0] 58) := P0_16.out.grow hb
  have W_17 : Hid (GB w2.heap.size w17 WK key0 WM 0 Wr) := W_16.out.grow hb
  have W2_17 : Hid (GB w2.heap.size w17 WK2 key0 WM2 0 Wr2) := W2_16.out.grow hb
  have Wx_17 : Hid (Blk w17 w3.heap.size #[.int .i64 n0, .slice (some ⟨WK, 0, none⟩) key0.length Wd, .int .i64 b0, .int .i64 a1, .slice (some ⟨WM, 0, none⟩) Wr.length Wc] 27) := Wx_16.out.grow hb
  have Wy_17 : Hid (Blk w17 (w3.heap.size + 1) #[.int .i64 n0, .slice (some ⟨WK2, 0, none⟩) key0.length Wd2, .int .i64 a1, .slice (some ⟨WM2, 0, none⟩) Wr2.length Wc2] 36) := Wy_16.out.grow hb
  have Gx_17 : Hid (Blk w17 w5.heap.size #[.int .i64 n0, .slice (some ⟨GK, 0, none⟩) key0.length Gd, .int .i64 b0, .int .i64 a1, .slice (some ⟨GM, Gf, none⟩) Gr.length Gc] 27) := Gx_16.out.grow hb
  have Gy_17 : Hid (Blk w17 (w5.heap.size + 1) #[.int .i64 n0, .slice (some ⟨GK2, 0, none⟩) key0.length Gd2, .int .i64 a1, .slice (some ⟨GM2, Gf2, none⟩) Gr2.length Gc2] 36) := Gy_16.out.grow hb
  have H_17 : Hid (Grp.GM w17 GK key0.length GM Gf Gr 1) := H_16.out.grow hb
  have H2_17 : Hid (Grp.GM w17 GK2 key0.length GM2 Gf2 Gr2 z1) := H2_16.out.grow hb
  have C_17 : Hid (GB w15.heap.size w17 CK key0 CM 0 Cr) := C_16.out.grow hb
  clear hb cP00 cP01 cP02 cP03 cP04 cWx0 cWx1 cWx2 cWx3 cWx4 cWy0 cWy1 cWy2 cWy3 cGx0 cGx1 cGx2 cGx3 cGx4 cGy0 cGy1 cGy2 cGy3
  have cP00 : ((w17.alloc (.cells #[.int .i64 n0, .slice (some ⟨VK, 0, none⟩) key0.length Vd, .int .i64 b0, .int .i64 a1, .slice (some ⟨VM, Vf, none⟩) Vr.length Vc] 27)).alloc (.cells #[.int .i64 n0, .slice (some ⟨VK2, 0, none⟩) key0.length Vd2, .int .i64 a1, .slice (some ⟨VM2, Vf2, none⟩) Vr2.length Vc2] 36)).cell? ⟨w.heap.size, 0, none⟩ = some (.int .i64 n0) := (((P0_17.out.alloc _).alloc _)).cell 0
  have cP01 : ((w17.alloc (.cells #[.int .i64 n0, .slice (some ⟨VK, 0, none⟩) key0.length Vd, .int .i64 b0, .int .i64 a1, .slice (some ⟨VM, Vf, none⟩) Vr.length Vc] 27)).alloc (.cells #[.int .i64 n0, .slice (some ⟨VK2, 0, none⟩) key0.length Vd2, .int .i64 a1, .slice (some ⟨VM2, Vf2, none⟩) Vr2.length Vc2] 36)).cell? ⟨w.heap.size, 1, none⟩ = some (.slice ka0 key0.length kc0) := (((P0_17.out.alloc _).alloc _)).cell 1
  have cP02 : ((w17.alloc (.cells #[.int .i64 n0, .slice (some ⟨VK, 0, none⟩) key0.length Vd, .int .i64 b0, .int .i64 a1, .slice (some ⟨VM, Vf, none⟩) Vr.length Vc] 27)).alloc (.cells #[.int .i64 n0, .slice (some ⟨VK2, 0, none⟩) key0.length Vd2, .int .i64 a1, .slice (some ⟨VM2, Vf2, none⟩) Vr2.length Vc2] 36)).cell? ⟨w.heap.size, 2, none⟩ = some (.int .i64 b0) := (((P0_17.out.alloc _).alloc _)).cell 2
  have cP03 : ((w17.alloc (.cells #[.int .i64 n0, .slice (some ⟨VK, 0, none⟩) key0.length Vd, .int .i64 b0, .int .i64 a1, .slice (some ⟨VM, Vf, none⟩) Vr.length Vc] 27)).alloc (.cells #[.int .i64 n0, .slice (some ⟨VK2, 0, none⟩) key0.length Vd2, .int .i64 a1, .slice (some ⟨VM2, Vf2, none⟩) Vr2.length Vc2] 36)).cell? ⟨w.heap.size, 3, none⟩ = some (.int .i64 t0) := (((P0_17.out.alloc _).alloc _)).cell 3
  have cP04 : ((w17.alloc (.cells #[.int .i64 n0, .slice (some ⟨VK, 0, none⟩) key0.length Vd, .int .i64 b0, .int .i64 a1, .slice (some ⟨VM, Vf, none⟩) Vr.length Vc] 27)).alloc (.cells #[.int .i64 n0, .slice (some ⟨VK2, 0, none⟩) key0.length Vd2, .int .i64 a1, .slice (some ⟨VM2, Vf2, none⟩) Vr2.length Vc2] 36)).cell? ⟨w.heap.size, 4, none⟩ = some (.slice a0 l0.length cap0) := (((P0_17.out.alloc _).alloc _)).cell 4
  have cWx0 : ((w17.alloc (.cells #[.int .i64 n0, .slice (some ⟨VK, 0, none⟩) key0.length Vd, .int .i64 b0, .int .i64 a1, .slice (some ⟨VM, Vf, none⟩) Vr.length Vc] 27)).alloc (.cells #[.int .i64 n0, .slice (some ⟨VK2, 0, none⟩) key0.length Vd2, .int .i64 a1, .slice (some ⟨VM2, Vf2, none⟩) Vr2.length Vc2] 36)).cell? ⟨w3.heap.size, 0, none⟩ = some (.int .i64 n0) := (((Wx_17.out.alloc _).alloc _)).cell 0
  have cWx1 : ((w17.alloc (.cells #[.int .i64 n0, .slice (some ⟨VK, 0, none⟩) key0.length Vd, .int .i64 b0, .int .i64 a1, .slice (some ⟨VM, Vf, none⟩) Vr.length Vc] 27)).alloc (.cells #[.int .i64 n0, .slice (some ⟨VK2, 0, none⟩) key0.length Vd2, .int .i64 a1, .slice (some ⟨VM2, Vf2, none⟩) Vr2.length Vc2] 36)).cell? ⟨w3.heap.size, 1, none⟩ = some (.slice (some ⟨WK, 0, none⟩) key0.length Wd) := (((Wx_17.out.alloc _).alloc _)).cell 1
  have cWx2 : ((w17.alloc (.cells #[.int .i64 n0, .slice (some ⟨VK, 0, none⟩) key0.length Vd, .int .i64 b0, .int .i64 a1, .slice (some ⟨VM, Vf, none⟩) Vr.length Vc] 27)).alloc (.cells #[.int .i64 n0, .slice (some ⟨VK2, 0, none⟩) key0.length Vd2, .int .i64 a1, .slice (some ⟨VM2, Vf2, none⟩) Vr2.length Vc2] 36)).cell? ⟨w3.heap.size, 2, none⟩ = some (.int .i64 b0) := (((Wx_17.out.alloc _).alloc _)).cell 2
  have cWx3 : ((w17.alloc (.cells #[.int .i64 n0, .slice (some ⟨VK, 0, none⟩) key0.length Vd, .int .i64 b0, .int .i64 a1, .slice (some ⟨VM, Vf, none⟩) Vr.length Vc] 27)).alloc (.cells #[.int .i64 n0, .slice (some ⟨VK2, 0, none⟩) key0.length Vd2, .int .i64 a1, .slice (some ⟨VM2, Vf2, none⟩) Vr2.length Vc2] 36)).cell? ⟨w3.heap.size, 3, none⟩ = some (.int .i64 a1) := (((Wx_17.out.alloc _).alloc _)).cell 3
  have cWx4 : ((w17.alloc (.cells #[.int .i64 n0, .slice (some ⟨VK, 0, none⟩) key0.length Vd, .int .i64 b0, .int .i64 a1, .slice (some ⟨VM, Vf, none⟩) Vr.length Vc] 27)).alloc (.cells #[.int .i64 n0, .slice (some ⟨VK2, 0, none⟩) key0.length Vd2, .int .i64 a1, .slice (some ⟨VM2, Vf2, none⟩) Vr2.length Vc2] 36)).cell? ⟨w3.heap.size, 4, none⟩ = some (.slice (some ⟨WM, 0, none⟩) Wr.length Wc) := (((Wx_17.out.alloc _).alloc _)).cell 4
  have cWy0 : ((w17.alloc (.cells #[.int .i64 n0, .slice (some ⟨VK, 0, none⟩) key0.length Vd, .int .i64 b0, .int .i64 a1, .slice (some ⟨VM, Vf, none⟩) Vr.length Vc] 27)).alloc (.cells #[.int .i64 n0, .slice (some ⟨VK2, 0, none⟩) key0.length Vd2, .int .i64 a1, .slice (some ⟨VM2, Vf2, none⟩) Vr2.length Vc2] 36)).cell? ⟨(w3.heap.size + 1), 0, none⟩ = some (.int .i64 n0) := (((Wy_17.out.alloc _).alloc _)).cell 0
  have cWy1 : ((w17.alloc (.cells #[.int .i64 n0, .slice (some ⟨VK, 0, none⟩) key0.length Vd, .int .i64 b0, .int .i64 a1, .slice (some ⟨VM, Vf, none⟩) Vr.length Vc] 27)).alloc (.cells #[.int .i64 n0, .slice (some ⟨VK2, 0, none⟩) key0.length Vd2, .int .i64 a1, .slice (some ⟨VM2, Vf2, none⟩) Vr2.length Vc2] 36)).cell? ⟨(w3.heap.size + 1), 1, none⟩ = some (.slice (some ⟨WK2, 0, none⟩) key0.length Wd2) := (((Wy_17.out.alloc _).alloc _)).cell 1
  have cWy2 : ((w17.alloc (.cells #[.int .i64 n0, .slice (some ⟨VK, 0, none⟩) key0.length Vd, .int .i64 b0, .int .i64 a1, .slice (some ⟨VM, Vf, none⟩) Vr.length Vc] 27)).alloc (.cells #[.int .i64 n0, .slice (some ⟨VK2, 0, none⟩) key0.length Vd2, .int .i64 a1, .slice (some ⟨VM2, Vf2, none⟩) Vr2.length Vc2] 36)).cell? ⟨(w3.heap.size + 1), 2, none⟩ = some (.int .i64 a1) := (((Wy_17.out.alloc _).alloc _)).cell 2
  have cWy3 : ((w17.alloc (.cells #[.int .i64 n0, .slice (some ⟨VK, 0, none⟩) key0.length Vd, .int .i64 b0, .int .i64 a1, .slice (some ⟨VM, Vf, none⟩) Vr.length Vc] 27)).alloc (.cells #[.int .i64 n0, .slice (some ⟨VK2, 0, none⟩) key0.length Vd2, .int .i64 a1, .slice (some ⟨VM2, Vf2, none⟩) Vr2.length Vc2] 36)).cell? ⟨(w3.heap.size + 1), 3, none⟩ = some (.slice (some ⟨WM2, 0, none⟩) Wr2.length Wc2) := (((Wy_17.out.alloc _).alloc _)).cell 3
  have cGx0 : ((w17.alloc (.cells #[.int .i64 n0, .slice (some ⟨VK, 0, none⟩) key0.length Vd, .int .i64 b0, .int .i64 a1, .slice (some ⟨VM, Vf, none⟩) Vr.length Vc] 27)).alloc (.cells #[.int .i64 n0, .slice (some ⟨VK2, 0, none⟩) key0.length Vd2, .int .i64 a1, .slice (some ⟨VM2, Vf2, none⟩) Vr2.length Vc2] 36)).cell? ⟨w5.heap.size, 0, none⟩ = some (.int .i64 n0) := (((Gx_17.out.alloc _).alloc _)).cell 0
  have cGx1 : ((w17.alloc (.cells #[.int .i64 n0, .slice (some ⟨VK, 0, none⟩) key0.length Vd, .int .i64 b0, .int .i64 a1, .slice (some ⟨VM, Vf, none⟩) Vr.length Vc] 27)).alloc (.cells #[.int .i64 n0, .slice (some ⟨VK2, 0, none⟩) key0.length Vd2, .int .i64 a1, .slice (some ⟨VM2, Vf2, none⟩) Vr2.length Vc2] 36)).cell? ⟨w5.heap.size, 1, none⟩ = some (.slice (some ⟨GK, 0, none⟩) key0.length Gd) := (((Gx_17.out.alloc _).alloc _)).cell 1
  have cGx2 : ((w17.alloc (.cells #[.int .i64 n0, .slice (some ⟨VK, 0, none⟩) key0.length Vd, .int .i64 b0, .int .i64 a1, .slice (some ⟨VM, Vf, none⟩) Vr.length Vc] 27)).alloc (.cells #[.int .i64 n0, .slice (some ⟨VK2, 0, none⟩) key0.length Vd2, .int .i64 a1, .slice (some ⟨VM2, Vf2, none⟩) Vr2.length Vc2] 36)).cell? ⟨w5.heap.size, 2, none⟩ = some (.int .i64 b0) := (((Gx_17.out.alloc _).alloc _)).cell 2
  have cGx3 : ((w17.alloc (.cells #[.int .i64 n0, .slice (some ⟨VK, 0, none⟩) key0.length Vd, .int .i64 b0, .int .i64 a1, .slice (some ⟨VM, Vf, none⟩) Vr.length Vc] 27)).alloc (.cells #[.int .i64 n0, .slice (some ⟨VK2, 0, none⟩) key0.length Vd2, .int .i64 a1, .slice (some ⟨VM2, Vf2, none⟩) Vr2.length Vc2] 36)).cell? ⟨w5.heap.size, 3, none⟩ = some (.int .i64 a1) := (((Gx_17.out.alloc _).alloc _)).cell 3
  have cGx4 : ((w17.alloc (.cells #[.int .i64 n0, .slice (some ⟨VK, 0, none⟩) key0.length Vd, .int .i64 b0, .int .i64 a1, .slice (some ⟨VM, Vf, none⟩) Vr.length Vc] 27)).alloc (.cells #[.int .i64 n0, .slice (some ⟨VK2, 0, none⟩) key0.length Vd2, .int .i64 a1, .slice (some ⟨VM2, Vf2, none⟩) Vr2.length Vc2] 36)).cell? ⟨w5.heap.size, 4, none⟩ = some (.slice (some ⟨GM, Gf, none⟩) Gr.length Gc) := (((Gx_17.out.alloc _).alloc _)).cell 4
  have cGy0 : ((w17.alloc (.cells #[.int .i64 n0, .slice (some ⟨VK, 0, none⟩) key0.length Vd, .int .i64 b0, .int .i64 a1, .slice (some ⟨VM, Vf, none⟩) Vr.length Vc] 27)).alloc (.cells #[.int .i64 n0, .slice (some ⟨VK2, 0, none⟩) key0.length Vd2, .int .i64 a1, .slice (some ⟨VM2, Vf2, none⟩) Vr2.length Vc2] 36)).cell? ⟨(w5.heap.size + 1), 0, none⟩ = some (.int .i64 n0) := (((Gy_17.out.alloc _).alloc _)).cell 0
  have cGy1 : ((w17.alloc (.cells #[.int .i64 n0, .slice (some ⟨VK, 0, none⟩) key0.length Vd, .int .i64 b0, .int .i64 a1, .slice (some ⟨VM, Vf, none⟩) Vr.length Vc] 27)).alloc (.cells #[.int .i64 n0, .slice (some ⟨VK2, 0, none⟩) key0.length Vd2, .int .i64 a1, .slice (some ⟨VM2, Vf2, none⟩) Vr2.length Vc2] 36)).cell? ⟨(w5.heap.size + 1), 1, none⟩ = some (.slice (some ⟨GK2, 0, none⟩) key0.length Gd2) := (((Gy_17.out.alloc _).alloc _)).cell 1
  have cGy2 : ((w17.alloc (.cells #[.int .i64 n0, .slice (some ⟨VK, 0, none⟩) key0.length Vd, .int .i64 b0, .int .i64 a1, .slice (some ⟨VM, Vf, none⟩) Vr.length Vc] 27)).alloc (.cells #[.int .i64 n0, .slice (some ⟨VK2, 0, none⟩) key0.length Vd2, .int .i64 a1, .slice (some ⟨VM2, Vf2, none⟩) Vr2.length Vc2] 36)).cell? ⟨(w5.heap.size + 1), 2, none⟩ = some (.int .i64 a1) := (((Gy_17.out.alloc _).alloc _)).cell 2
  have cGy3 : ((w17.alloc (.cells #[.int .i64 n0, .slice (some ⟨VK, 0, none⟩) key0.length Vd, .int .i64 b0, .int .i64 a1, .slice (some ⟨VM, Vf, none⟩) Vr.length Vc] 27)).alloc (.cells #[.int .i64 n0, .slice (some ⟨VK2, 0, none⟩) key0.length Vd2, .int .i64 a1, .slice (some ⟨VM2, Vf2, none⟩) Vr2.length Vc2] 36)).cell? ⟨(w5.heap.size + 1), 3, none⟩ = some (.slice (some ⟨GM2, Gf2, none⟩) Gr2.length Gc2) := (((Gy_17.out.alloc _).alloc _)).cell 3
  go_wp2_with fail
  refine (eqG_any n0 b0 a1 _ _ _ _ key0 _ _ _ _ Vr Wr FL _ (V_17.out.key.rd.below (Go.Joins.below_alloc2 w17 _ _)) (W_17.out.key.rd.below (Go.Joins.below_alloc2 w17 _ _)) Q0k.out.1 (V_17.out.row.rd.below (Go.Joins.below_alloc2 w17 _ _)) (W_17.out.row.rd.below (Go.Joins.below_alloc2 w17 _ _)) VP.out WP.out PF.out.1 PF.out.2).mono ?_
  rintro e w18 ⟨rfl, hb⟩
  have Vx_18 : Hid (Blk w18 w17.heap.size #[.int .i64 n0, .slice (some ⟨VK, 0, none⟩) key0.length Vd, .int .i64 b0, .int .i64 a1, .slice (some ⟨VM, Vf, none⟩) Vr.length Vc] 27) := ((Blk.new _ _ _).alloc _).grow hb
  have U_Vx : Hid (w17.heap.size ≤ w17.heap.size ∧ w17.heap.size < w18.heap.size) := ⟨by omega, Vx_18.out.lt⟩
  have Vy_18 : Hid (Blk w18 (w17.heap.size + 1) #[.int .i64 n0, .slice (some ⟨VK2, 0, none⟩) key0.length Vd2, .int .i64 a1, .slice (some ⟨VM2, Vf2, none⟩) Vr2.length Vc2] 36) := (Blk.new_at (by simp)).grow hb
  have U_Vy : Hid (w17.heap.size ≤ (w17.heap.size + 1) ∧ (w17.heap.size + 1) < w18.heap.size) := ⟨by omega, Vy_18.out.lt⟩
  replace hb := grow_on (Go.Joins.below_alloc2 w17 _ _) hb
  have B18 : Hid (Below w.heap.size w w18) := grow_on B17.out hb
  have Z18 : Hid (w17.heap.size ≤ w18.heap.size) := hb.size
  have P0_18 : Hid (Blk w18 w.heap.size #[.int .i64 n0, .slice ka0 key0.length kc0, .int .i64 b0, .int .i64 t0, .slice a0 l0.length cap0] 58) := P0_17.out.grow hb
  have W_18 : Hid (GB w2.heap.size w18 WK key0 WM 0 Wr) := W_17.out.grow hb
  have W2_18 : Hid (GB w2.heap.size w18 WK2 key0 WM2 0 Wr2) := W2_17.out.grow hb
  have Wx_18 : Hid (Blk w18 w3.heap.size #[.int .i64 n0, .slice (some ⟨WK, 0, none⟩) key0.length Wd, .int .i64 b0, .int .i64 a1, .slice (some ⟨WM, 0, none⟩) Wr.length Wc] 27) := Wx_17.out.grow hb
  have Wy_18 : Hid (Blk w18 (w3.heap.size + 1) #[.int .i64 n0, .slice (some ⟨WK2, 0, none⟩) key0.length Wd2, .int .i64 a1, .slice (some ⟨WM2, 0, none⟩) Wr2.length Wc2] 36) := Wy_17.out.grow hb
  have Gx_18 : Hid (Blk w18 w5.heap.size #[.int .i64 n0, .slice (some ⟨GK, 0, none⟩) key0.length Gd, .int .i64 b0, .int .i64 a1, .slice (some ⟨GM, Gf, none⟩) Gr.length Gc] 27) := Gx_17.out.grow hb
  have Gy_18 : Hid (Blk w18 (w5.heap.size + 1) #[.int .i64 n0, .slice (some ⟨GK2, 0, none⟩) key0.length Gd2, .int .i64 a1, .slice (some ⟨GM2, Gf2, none⟩) Gr2.length Gc2] 36) := Gy_17.out.grow hb
  have H_18 : Hid (Grp.GM w18 GK key0.length GM Gf Gr 1) := H_17.out.grow hb
  have H2_18 : Hid (Grp.GM w18 GK2 key0.length GM2 Gf2 Gr2 z1) := H2_17.out.grow hb
  have V_18 : Hid (GB w16.heap.size w18 VK key0 VM Vf Vr) := V_17.out.grow hb
  have V2_18 : Hid (GB w16.heap.size w18 VK2 key0 VM2 Vf2 Vr2) := V2_17.out.grow hb
  clear hb cP00 cP01 cP02 cP03 cP04 cWx0 cWx1 cWx2 cWx3 cWx4 cWy0 cWy1 cWy2 cWy3 cGx0 cGx1 cGx2 cGx3 cGx4 cGy0 cGy1 cGy2 cGy3
  have cP00 : w18.cell? ⟨w.heap.size, 0, none⟩ = some (.int .i64 n0) := (P0_18.out).cell 0
  have cP01 : w18.cell? ⟨w.heap.size, 1, none⟩ = some (.slice ka0 key0.length kc0) := (P0_18.out).cell 1
  have cP02 : w18.cell? ⟨w.heap.size, 2, none⟩ = some (.int .i64 b0) := (P0_18.out).cell 2
  have cP03 : w18.cell? ⟨w.heap.size, 3, none⟩ = some (.int .i64 t0) := (P0_18.out).cell 3
  have cP04 : w18.cell? ⟨w.heap.size, 4, none⟩ = some (.slice a0 l0.length cap0) := (P0_18.out).cell 4
  have cWx0 : w18.cell? ⟨w3.heap.size, 0, none⟩ = some (.int .i64 n0) := (Wx_18.out).cell 0
  have cWx1 : w18.cell? ⟨w3.heap.size, 1, none⟩ = some (.slice (some ⟨WK, 0, none⟩) key0.length Wd) := (Wx_18.out).cell 1
  have cWx2 : w18.cell? ⟨w3.heap.size, 2, none⟩ = some (.int .i64 b0) := (Wx_18.out).cell 2
  have cWx3 : w18.cell? ⟨w3.heap.size, 3, none⟩ = some (.int .i64 a1) := (Wx_18.out).cell 3
  have cWx4 : w18.cell? ⟨w3.heap.size, 4, none⟩ = some (.slice (some ⟨WM, 0, none⟩) Wr.length Wc) := (Wx_18.out).cell 4
  have cWy0 : w18.cell? ⟨(w3.heap.size + 1), 0, none⟩ = some (.int .i64 n0) := (Wy_18.out).cell 0
  have cWy1 : w18.cell? ⟨(w3.heap.size + 1), 1, none⟩ = some (.slice (some ⟨WK2, 0, none⟩) key0.length Wd2) := (Wy_18.out).cell 1
  have cWy2 : w18.cell? ⟨(w3.heap.size + 1), 2, none⟩ = some (.int .i64 a1) := (Wy_18.out).cell 2
  have cWy3 : w18.cell? ⟨(w3.heap.size + 1), 3, none⟩ = some (.slice (some ⟨WM2, 0, none⟩) Wr2.length Wc2) := (Wy_18.out).cell 3
  have cGx0 : w18.cell? ⟨w5.heap.size, 0, none⟩ = some (.int .i64 n0) := (Gx_18.out).cell 0
  have cGx1 : w18.cell? ⟨w5.heap.size, 1, none⟩ = some (.slice (some ⟨GK, 0, none⟩) key0.length Gd) := (Gx_18.out).cell 1
  have cGx2 : w18.cell? ⟨w5.heap.size, 2, none⟩ = some (.int .i64 b0) := (Gx_18.out).cell 2
  have cGx3 : w18.cell? ⟨w5.heap.size, 3, none⟩ = some (.int .i64 a1) := (Gx_18.out).cell 3
  have cGx4 : w18.cell? ⟨w5.heap.size, 4, none⟩ = some (.slice (some ⟨GM, Gf, none⟩) Gr.length Gc) := (Gx_18.out).cell 4
  have cGy0 : w18.cell? ⟨(w5.heap.size + 1), 0, none⟩ = some (.int .i64 n0) := (Gy_18.out).cell 0
  have cGy1 : w18.cell? ⟨(w5.heap.size + 1), 1, none⟩ = some (.slice (some ⟨GK2, 0, none⟩) key0.length Gd2) := (Gy_18.out).cell 1
  have cGy2 : w18.cell? ⟨(w5.heap.size + 1), 2, none⟩ = some (.int .i64 a1) := (Gy_18.out).cell 2
  have cGy3 : w18.cell? ⟨(w5.heap.size + 1), 3, none⟩ = some (.slice (some ⟨GM2, Gf2, none⟩) Gr2.length Gc2) := (Gy_18.out).cell 3
  have cVx0 : w18.cell? ⟨w17.heap.size, 0, none⟩ = some (.int .i64 n0) := (Vx_18.out).cell 0
  have cVx1 : w18.cell? ⟨w17.heap.size, 1, none⟩ = some (.slice (some ⟨VK, 0, none⟩) key0.length Vd) := (Vx_18.out).cell 1
  have cVx2 : w18.cell? ⟨w17.heap.size, 2, none⟩ = some (.int .i64 b0) := (Vx_18.out).cell 2
  have cVx3 : w18.cell? ⟨w17.heap.size, 3, none⟩ = some (.int .i64 a1) := (Vx_18.out).cell 3
  have cVx4 : w18.cell? ⟨w17.heap.size, 4, none⟩ = some (.slice (some ⟨VM, Vf, none⟩) Vr.length Vc) := (Vx_18.out).cell 4
  have cVy0 : w18.cell? ⟨(w17.heap.size + 1), 0, none⟩ = some (.int .i64 n0) := (Vy_18.out).cell 0
  have cVy1 : w18.cell? ⟨(w17.heap.size + 1), 1, none⟩ = some (.slice (some ⟨VK2, 0, none⟩) key0.length Vd2) := (Vy_18.out).cell 1
  have cVy2 : w18.cell? ⟨(w17.heap.size + 1), 2, none⟩ = some (.int .i64 a1) := (Vy_18.out).cell 2
  have cVy3 : w18.cell? ⟨(w17.heap.size + 1), 3, none⟩ = some (.slice (some ⟨VM2, Vf2, none⟩) Vr2.length Vc2) := (Vy_18.out).cell 3
  go_wp2_with fail
  refine (eqB_any n0 a1 _ _ _ _ key0 _ _ _ _ Vr2 Wr2 l0 _ V2_18.out.key.rd W2_18.out.key.rd Q0k.out.1 V2_18.out.row.rd W2_18.out.row.rd V2P.out W2P.out M0.out F0.out).mono ?_
  rintro e w19 ⟨rfl, hb⟩
  have B19 : Hid (Below w.heap.size w w19) := grow_on B18.out hb
  have Z19 : Hid (w18.heap.size ≤ w19.heap.size) := hb.size
  have P0_19 : Hid (Blk w19 w.heap.size #[.int .i64 n0, .slice ka0 key0.length kc0, .int .i64 b0, .int .i64 t0, .slice a0 l0.length cap0] 58) := P0_18.out.grow hb
  have W_19 : Hid (GB w2.heap.size w19 WK key0 WM 0 Wr) := W_18.out.grow hb
  have W2_19 : Hid (GB w2.heap.size w19 WK2 key0 WM2 0 Wr2) := W2_18.out.grow hb
  have Wx_19 : Hid (Blk w19 w3.heap.size #[.int .i64 n0, .slice (some ⟨WK, 0, none⟩) key0.length Wd, .int .i64 b0, .int .i64 a1, .slice (some ⟨WM, 0, none⟩) Wr.length Wc] 27) := Wx_18.out.grow hb
  have Wy_19 : Hid (Blk w19 (w3.heap.size + 1) #[.int .i64 n0, .slice (some ⟨WK2, 0, none⟩) key0.length Wd2, .int .i64 a1, .slice (some ⟨WM2, 0, none⟩) Wr2.length Wc2] 36) := Wy_18.out.grow hb
  have Gx_19 : Hid (Blk w19 w5.heap.size #[.int .i64 n0, .slice (some ⟨GK, 0, none⟩) key0.length Gd, .int .i64 b0, .int .i64 a1, .slice (some ⟨GM, Gf, none⟩) Gr.length Gc] 27) := Gx_18.out.grow hb
  have Gy_19 : Hid (Blk w19 (w5.heap.size + 1) #[.int .i64 n0, .slice (some ⟨GK2, 0, none⟩) key0.length Gd2, .int .i64 a1, .slice (some ⟨GM2, Gf2, none⟩) Gr2.length Gc2] 36) := Gy_18.out.grow hb
  have H_19 : Hid (Grp.GM w19 GK key0.length GM Gf Gr 1) := H_18.out.grow hb
  have H2_19 : Hid (Grp.GM w19 GK2 key0.length GM2 Gf2 Gr2 z1) := H2_18.out.grow hb
  have V_19 : Hid (GB w16.heap.size w19 VK key0 VM Vf Vr) := V_18.out.grow hb
  have V2_19 : Hid (GB w16.heap.size w19 VK2 key0 VM2 Vf2 Vr2) := V2_18.out.grow hb
  have Vx_19 : Hid (Blk w19 w17.heap.size #[.int .i64 n0, .slice (some ⟨VK, 0, none⟩) key0.length Vd, .int .i64 b0, .int .i64 a1, .slice (some ⟨VM, Vf, none⟩) Vr.length Vc] 27) := Vx_18.out.grow hb
  have Vy_19 : Hid (Blk w19 (w17.heap.size + 1) #[.int .i64 n0, .slice (some ⟨VK2, 0, none⟩) key0.length Vd2, .int .i64 a1, .slice (some ⟨VM2, Vf2, none⟩) Vr2.length Vc2] 36) := Vy_18.out.grow hb
  clear hb cP00 cP01 cP02 cP03 cP04 cWx0 cWx1 cWx2 cWx3 cWx4 cWy0 cWy1 cWy2 cWy3 cGx0 cGx1 cGx2 cGx3 cGx4 cGy0 cGy1 cGy2 cGy3 cVx0 cVx1 cVx2 cVx3 cVx4 cVy0 cVy1 cVy2 cVy3
  have hH1 : Hid (Calls Try.prog 45 #[.agg #[.int .i64 n0, .slice (some ⟨GK, 0, none⟩) key0.length Gd, .int .i64 b0, .int .i64 a1, .slice (some ⟨GM, Gf, none⟩) Gr.length Gc], .int .i64 1] w19 fun e w' => e = .returned (.int .i64 (z1 : Int)) ∧ Below w19.heap.size w19 w') := (Grp.heldGroup_any n0 b0 a1 GK Gd key0 GM Gf Gc 1 Gr w19 H_19.out GL.out K0.out.1 GS.out.2 (by omega) (by have := GS.out.1; omega)).mono (fun e w' h => ⟨h.1.trans (Mark.retI (by have := HZ1.out; omega)), h.2⟩)
  have hq1 : ¬ (z1 : Int) < 0 := by omega
  have hq2 : ¬ (z2 : Int) < 0 := by omega
  have cP00 : w19.cell? ⟨w.heap.size, 0, none⟩ = some (.int .i64 n0) := (P0_19.out).cell 0
  have cP01 : w19.cell? ⟨w.heap.size, 1, none⟩ = some (.slice ka0 key0.length kc0) := (P0_19.out).cell 1
  have cP02 : w19.cell? ⟨w.heap.size, 2, none⟩ = some (.int .i64 b0) := (P0_19.out).cell 2
  have cP03 : w19.cell? ⟨w.heap.size, 3, none⟩ = some (.int .i64 t0) := (P0_19.out).cell 3
  have cP04 : w19.cell? ⟨w.heap.size, 4, none⟩ = some (.slice a0 l0.length cap0) := (P0_19.out).cell 4
  have cWx0 : w19.cell? ⟨w3.heap.size, 0, none⟩ = some (.int .i64 n0) := (Wx_19.out).cell 0
  have cWx1 : w19.cell? ⟨w3.heap.size, 1, none⟩ = some (.slice (some ⟨WK, 0, none⟩) key0.length Wd) := (Wx_19.out).cell 1
  have cWx2 : w19.cell? ⟨w3.heap.size, 2, none⟩ = some (.int .i64 b0) := (Wx_19.out).cell 2
  have cWx3 : w19.cell? ⟨w3.heap.size, 3, none⟩ = some (.int .i64 a1) := (Wx_19.out).cell 3
  have cWx4 : w19.cell? ⟨w3.heap.size, 4, none⟩ = some (.slice (some ⟨WM, 0, none⟩) Wr.length Wc) := (Wx_19.out).cell 4
  have cWy0 : w19.cell? ⟨(w3.heap.size + 1), 0, none⟩ = some (.int .i64 n0) := (Wy_19.out).cell 0
  have cWy1 : w19.cell? ⟨(w3.heap.size + 1), 1, none⟩ = some (.slice (some ⟨WK2, 0, none⟩) key0.length Wd2) := (Wy_19.out).cell 1
  have cWy2 : w19.cell? ⟨(w3.heap.size + 1), 2, none⟩ = some (.int .i64 a1) := (Wy_19.out).cell 2
  have cWy3 : w19.cell? ⟨(w3.heap.size + 1), 3, none⟩ = some (.slice (some ⟨WM2, 0, none⟩) Wr2.length Wc2) := (Wy_19.out).cell 3
  have cGx0 : w19.cell? ⟨w5.heap.size, 0, none⟩ = some (.int .i64 n0) := (Gx_19.out).cell 0
  have cGx1 : w19.cell? ⟨w5.heap.size, 1, none⟩ = some (.slice (some ⟨GK, 0, none⟩) key0.length Gd) := (Gx_19.out).cell 1
  have cGx2 : w19.cell? ⟨w5.heap.size, 2, none⟩ = some (.int .i64 b0) := (Gx_19.out).cell 2
  have cGx3 : w19.cell? ⟨w5.heap.size, 3, none⟩ = some (.int .i64 a1) := (Gx_19.out).cell 3
  have cGx4 : w19.cell? ⟨w5.heap.size, 4, none⟩ = some (.slice (some ⟨GM, Gf, none⟩) Gr.length Gc) := (Gx_19.out).cell 4
  have cGy0 : w19.cell? ⟨(w5.heap.size + 1), 0, none⟩ = some (.int .i64 n0) := (Gy_19.out).cell 0
  have cGy1 : w19.cell? ⟨(w5.heap.size + 1), 1, none⟩ = some (.slice (some ⟨GK2, 0, none⟩) key0.length Gd2) := (Gy_19.out).cell 1
  have cGy2 : w19.cell? ⟨(w5.heap.size + 1), 2, none⟩ = some (.int .i64 a1) := (Gy_19.out).cell 2
  have cGy3 : w19.cell? ⟨(w5.heap.size + 1), 3, none⟩ = some (.slice (some ⟨GM2, Gf2, none⟩) Gr2.length Gc2) := (Gy_19.out).cell 3
  have cVx0 : w19.cell? ⟨w17.heap.size, 0, none⟩ = some (.int .i64 n0) := (Vx_19.out).cell 0
  have cVx1 : w19.cell? ⟨w17.heap.size, 1, none⟩ = some (.slice (some ⟨VK, 0, none⟩) key0.length Vd) := (Vx_19.out).cell 1
  have cVx2 : w19.cell? ⟨w17.heap.size, 2, none⟩ = some (.int .i64 b0) := (Vx_19.out).cell 2
  have cVx3 : w19.cell? ⟨w17.heap.size, 3, none⟩ = some (.int .i64 a1) := (Vx_19.out).cell 3
  have cVx4 : w19.cell? ⟨w17.heap.size, 4, none⟩ = some (.slice (some ⟨VM, Vf, none⟩) Vr.length Vc) := (Vx_19.out).cell 4
  have cVy0 : w19.cell? ⟨(w17.heap.size + 1), 0, none⟩ = some (.int .i64 n0) := (Vy_19.out).cell 0
  have cVy1 : w19.cell? ⟨(w17.heap.size + 1), 1, none⟩ = some (.slice (some ⟨VK2, 0, none⟩) key0.length Vd2) := (Vy_19.out).cell 1
  have cVy2 : w19.cell? ⟨(w17.heap.size + 1), 2, none⟩ = some (.int .i64 a1) := (Vy_19.out).cell 2
  have cVy3 : w19.cell? ⟨(w17.heap.size + 1), 3, none⟩ = some (.slice (some ⟨VM2, Vf2, none⟩) Vr2.length Vc2) := (Vy_19.out).cell 3
  go_wp2_with fail
  refine (hH1.out).mono ?_
  rintro e w20 ⟨rfl, hb⟩
  have B20 : Hid (Below w.heap.size w w20) := grow_on B19.out hb
  have Z20 : Hid (w19.heap.size ≤ w20.heap.size) := hb.size
  have P0_20 : Hid (Blk w20 w.heap.size #[.int .i64 n0, .slice ka0 key0.length kc0, .int .i64 b0, .int .i64 t0, .slice a0 l0.length cap0] 58) := P0_19.out.grow hb
  have W_20 : Hid (GB w2.heap.size w20 WK key0 WM 0 Wr) := W_19.out.grow hb
  have W2_20 : Hid (GB w2.heap.size w20 WK2 key0 WM2 0 Wr2) := W2_19.out.grow hb
  have Wx_20 : Hid (Blk w20 w3.heap.size #[.int .i64 n0, .slice (some ⟨WK, 0, none⟩) key0.length Wd, .int .i64 b0, .int .i64 a1, .slice (some ⟨WM, 0, none⟩) Wr.length Wc] 27) := Wx_19.out.grow hb
  have Wy_20 : Hid (Blk w20 (w3.heap.size + 1) #[.int .i64 n0, .slice (some ⟨WK2, 0, none⟩) key0.length Wd2, .int .i64 a1, .slice (some ⟨WM2, 0, none⟩) Wr2.length Wc2] 36) := Wy_19.out.grow hb
  have Gx_20 : Hid (Blk w20 w5.heap.size #[.int .i64 n0, .slice (some ⟨GK, 0, none⟩) key0.length Gd, .int .i64 b0, .int .i64 a1, .slice (some ⟨GM, Gf, none⟩) Gr.length Gc] 27) := Gx_19.out.grow hb
  have Gy_20 : Hid (Blk w20 (w5.heap.size + 1) #[.int .i64 n0, .slice (some ⟨GK2, 0, none⟩) key0.length Gd2, .int .i64 a1, .slice (some ⟨GM2, Gf2, none⟩) Gr2.length Gc2] 36) := Gy_19.out.grow hb
  have H_20 : Hid (Grp.GM w20 GK key0.length GM Gf Gr 1) := H_19.out.grow hb
  have H2_20 : Hid (Grp.GM w20 GK2 key0.length GM2 Gf2 Gr2 z1) := H2_19.out.grow hb
  have V_20 : Hid (GB w16.heap.size w20 VK key0 VM Vf Vr) := V_19.out.grow hb
  have V2_20 : Hid (GB w16.heap.size w20 VK2 key0 VM2 Vf2 Vr2) := V2_19.out.grow hb
  have Vx_20 : Hid (Blk w20 w17.heap.size #[.int .i64 n0, .slice (some ⟨VK, 0, none⟩) key0.length Vd, .int .i64 b0, .int .i64 a1, .slice (some ⟨VM, Vf, none⟩) Vr.length Vc] 27) := Vx_19.out.grow hb
  have Vy_20 : Hid (Blk w20 (w17.heap.size + 1) #[.int .i64 n0, .slice (some ⟨VK2, 0, none⟩) key0.length Vd2, .int .i64 a1, .slice (some ⟨VM2, Vf2, none⟩) Vr2.length Vc2] 36) := Vy_19.out.grow hb
  clear hb cP00 cP01 cP02 cP03 cP04 cWx0 cWx1 cWx2 cWx3 cWx4 cWy0 cWy1 cWy2 cWy3 cGx0 cGx1 cGx2 cGx3 cGx4 cGy0 cGy1 cGy2 cGy3 cVx0 cVx1 cVx2 cVx3 cVx4 cVy0 cVy1 cVy2 cVy3 hH1
  have hH2 : Hid (Calls Try.prog 47 #[.agg #[.int .i64 n0, .slice (some ⟨GK2, 0, none⟩) key0.length Gd2, .int .i64 a1, .slice (some ⟨GM2, Gf2, none⟩) Gr2.length Gc2], .int .i64 (z1 : Int)] w20 fun e w' => e = .returned (.int .i64 (z2 : Int)) ∧ Below w20.heap.size w20 w') := (Grp.heldBatch_any n0 a1 GK2 Gd2 key0 GM2 Gf2 Gc2 z1 Gr2 w20 H2_20.out G2L.out K0.out.1 G2S.out.2 HZB.out.1 (by have := HZB.out.2; have := G2S.out.1; omega)).mono (fun e w' h => ⟨h.1.trans (Mark.retI (by have := HZ2.out; omega)), h.2⟩)
  have cP00 : w20.cell? ⟨w.heap.size, 0, none⟩ = some (.int .i64 n0) := (P0_20.out).cell 0
  have cP01 : w20.cell? ⟨w.heap.size, 1, none⟩ = some (.slice ka0 key0.length kc0) := (P0_20.out).cell 1
  have cP02 : w20.cell? ⟨w.heap.size, 2, none⟩ = some (.int .i64 b0) := (P0_20.out).cell 2
  have cP03 : w20.cell? ⟨w.heap.size, 3, none⟩ = some (.int .i64 t0) := (P0_20.out).cell 3
  have cP04 : w20.cell? ⟨w.heap.size, 4, none⟩ = some (.slice a0 l0.length cap0) := (P0_20.out).cell 4
  have cWx0 : w20.cell? ⟨w3.heap.size, 0, none⟩ = some (.int .i64 n0) := (Wx_20.out).cell 0
  have cWx1 : w20.cell? ⟨w3.heap.size, 1, none⟩ = some (.slice (some ⟨WK, 0, none⟩) key0.length Wd) := (Wx_20.out).cell 1
  have cWx2 : w20.cell? ⟨w3.heap.size, 2, none⟩ = some (.int .i64 b0) := (Wx_20.out).cell 2
  have cWx3 : w20.cell? ⟨w3.heap.size, 3, none⟩ = some (.int .i64 a1) := (Wx_20.out).cell 3
  have cWx4 : w20.cell? ⟨w3.heap.size, 4, none⟩ = some (.slice (some ⟨WM, 0, none⟩) Wr.length Wc) := (Wx_20.out).cell 4
  have cWy0 : w20.cell? ⟨(w3.heap.size + 1), 0, none⟩ = some (.int .i64 n0) := (Wy_20.out).cell 0
  have cWy1 : w20.cell? ⟨(w3.heap.size + 1), 1, none⟩ = some (.slice (some ⟨WK2, 0, none⟩) key0.length Wd2) := (Wy_20.out).cell 1
  have cWy2 : w20.cell? ⟨(w3.heap.size + 1), 2, none⟩ = some (.int .i64 a1) := (Wy_20.out).cell 2
  have cWy3 : w20.cell? ⟨(w3.heap.size + 1), 3, none⟩ = some (.slice (some ⟨WM2, 0, none⟩) Wr2.length Wc2) := (Wy_20.out).cell 3
  have cGx0 : w20.cell? ⟨w5.heap.size, 0, none⟩ = some (.int .i64 n0) := (Gx_20.out).cell 0
  have cGx1 : w20.cell? ⟨w5.heap.size, 1, none⟩ = some (.slice (some ⟨GK, 0, none⟩) key0.length Gd) := (Gx_20.out).cell 1
  have cGx2 : w20.cell? ⟨w5.heap.size, 2, none⟩ = some (.int .i64 b0) := (Gx_20.out).cell 2
  have cGx3 : w20.cell? ⟨w5.heap.size, 3, none⟩ = some (.int .i64 a1) := (Gx_20.out).cell 3
  have cGx4 : w20.cell? ⟨w5.heap.size, 4, none⟩ = some (.slice (some ⟨GM, Gf, none⟩) Gr.length Gc) := (Gx_20.out).cell 4
  have cGy0 : w20.cell? ⟨(w5.heap.size + 1), 0, none⟩ = some (.int .i64 n0) := (Gy_20.out).cell 0
  have cGy1 : w20.cell? ⟨(w5.heap.size + 1), 1, none⟩ = some (.slice (some ⟨GK2, 0, none⟩) key0.length Gd2) := (Gy_20.out).cell 1
  have cGy2 : w20.cell? ⟨(w5.heap.size + 1), 2, none⟩ = some (.int .i64 a1) := (Gy_20.out).cell 2
  have cGy3 : w20.cell? ⟨(w5.heap.size + 1), 3, none⟩ = some (.slice (some ⟨GM2, Gf2, none⟩) Gr2.length Gc2) := (Gy_20.out).cell 3
  have cVx0 : w20.cell? ⟨w17.heap.size, 0, none⟩ = some (.int .i64 n0) := (Vx_20.out).cell 0
  have cVx1 : w20.cell? ⟨w17.heap.size, 1, none⟩ = some (.slice (some ⟨VK, 0, none⟩) key0.length Vd) := (Vx_20.out).cell 1
  have cVx2 : w20.cell? ⟨w17.heap.size, 2, none⟩ = some (.int .i64 b0) := (Vx_20.out).cell 2
  have cVx3 : w20.cell? ⟨w17.heap.size, 3, none⟩ = some (.int .i64 a1) := (Vx_20.out).cell 3
  have cVx4 : w20.cell? ⟨w17.heap.size, 4, none⟩ = some (.slice (some ⟨VM, Vf, none⟩) Vr.length Vc) := (Vx_20.out).cell 4
  have cVy0 : w20.cell? ⟨(w17.heap.size + 1), 0, none⟩ = some (.int .i64 n0) := (Vy_20.out).cell 0
  have cVy1 : w20.cell? ⟨(w17.heap.size + 1), 1, none⟩ = some (.slice (some ⟨VK2, 0, none⟩) key0.length Vd2) := (Vy_20.out).cell 1
  have cVy2 : w20.cell? ⟨(w17.heap.size + 1), 2, none⟩ = some (.int .i64 a1) := (Vy_20.out).cell 2
  have cVy3 : w20.cell? ⟨(w17.heap.size + 1), 3, none⟩ = some (.slice (some ⟨VM2, Vf2, none⟩) Vr2.length Vc2) := (Vy_20.out).cell 3
  go_wp2_with fail
  refine (hH2.out).mono ?_
  rintro e w21 ⟨rfl, hb⟩
  have B21 : Hid (Below w.heap.size w w21) := grow_on B20.out hb
  have Z21 : Hid (w20.heap.size ≤ w21.heap.size) := hb.size
  have P0_21 : Hid (Blk w21 w.heap.size #[.int .i64 n0, .slice ka0 key0.length kc0, .int .i64 b0, .int .i64 t0, .slice a0 l0.length cap0] 58) := P0_20.out.grow hb
  have W_21 : Hid (GB w2.heap.size w21 WK key0 WM 0 Wr) := W_20.out.grow hb
  have W2_21 : Hid (GB w2.heap.size w21 WK2 key0 WM2 0 Wr2) := W2_20.out.grow hb
  have Wx_21 : Hid (Blk w21 w3.heap.size #[.int .i64 n0, .slice (some ⟨WK, 0, none⟩) key0.length Wd, .int .i64 b0, .int .i64 a1, .slice (some ⟨WM, 0, none⟩) Wr.length Wc] 27) := Wx_20.out.grow hb
  have Wy_21 : Hid (Blk w21 (w3.heap.size + 1) #[.int .i64 n0, .slice (some ⟨WK2, 0, none⟩) key0.length Wd2, .int .i64 a1, .slice (some ⟨WM2, 0, none⟩) Wr2.length Wc2] 36) := Wy_20.out.grow hb
  have Gx_21 : Hid (Blk w21 w5.heap.size #[.int .i64 n0, .slice (some ⟨GK, 0, none⟩) key0.length Gd, .int .i64 b0, .int .i64 a1, .slice (some ⟨GM, Gf, none⟩) Gr.length Gc] 27) := Gx_20.out.grow hb
  have Gy_21 : Hid (Blk w21 (w5.heap.size + 1) #[.int .i64 n0, .slice (some ⟨GK2, 0, none⟩) key0.length Gd2, .int .i64 a1, .slice (some ⟨GM2, Gf2, none⟩) Gr2.length Gc2] 36) := Gy_20.out.grow hb
  have H_21 : Hid (Grp.GM w21 GK key0.length GM Gf Gr 1) := H_20.out.grow hb
  have H2_21 : Hid (Grp.GM w21 GK2 key0.length GM2 Gf2 Gr2 z1) := H2_20.out.grow hb
  have V_21 : Hid (GB w16.heap.size w21 VK key0 VM Vf Vr) := V_20.out.grow hb
  have V2_21 : Hid (GB w16.heap.size w21 VK2 key0 VM2 Vf2 Vr2) := V2_20.out.grow hb
  have Vx_21 : Hid (Blk w21 w17.heap.size #[.int .i64 n0, .slice (some ⟨VK, 0, none⟩) key0.length Vd, .int .i64 b0, .int .i64 a1, .slice (some ⟨VM, Vf, none⟩) Vr.length Vc] 27) := Vx_20.out.grow hb
  have Vy_21 : Hid (Blk w21 (w17.heap.size + 1) #[.int .i64 n0, .slice (some ⟨VK2, 0, none⟩) key0.length Vd2, .int .i64 a1, .slice (some ⟨VM2, Vf2, none⟩) Vr2.length Vc2] 36) := Vy_20.out.grow hb
  clear hb cP00 cP01 cP02 cP03 cP04 cWx0 cWx1 cWx2 cWx3 cWx4 cWy0 cWy1 cWy2 cWy3 cGx0 cGx1 cGx2 cGx3 cGx4 cGy0 cGy1 cGy2 cGy3 cVx0 cVx1 cVx2 cVx3 cVx4 cVy0 cVy1 cVy2 cVy3 hH2 hq1
  have cP00 : w21.cell? ⟨w.heap.size, 0, none⟩ = some (.int .i64 n0) := (P0_21.out).cell 0
  have cP01 : w21.cell? ⟨w.heap.size, 1, none⟩ = some (.slice ka0 key0.length kc0) := (P0_21.out).cell 1
  have cP02 : w21.cell? ⟨w.heap.size, 2, none⟩ = some (.int .i64 b0) := (P0_21.out).cell 2
  have cP03 : w21.cell? ⟨w.heap.size, 3, none⟩ = some (.int .i64 t0) := (P0_21.out).cell 3
  have cP04 : w21.cell? ⟨w.heap.size, 4, none⟩ = some (.slice a0 l0.length cap0) := (P0_21.out).cell 4
  have cWx0 : w21.cell? ⟨w3.heap.size, 0, none⟩ = some (.int .i64 n0) := (Wx_21.out).cell 0
  have cWx1 : w21.cell? ⟨w3.heap.size, 1, none⟩ = some (.slice (some ⟨WK, 0, none⟩) key0.length Wd) := (Wx_21.out).cell 1
  have cWx2 : w21.cell? ⟨w3.heap.size, 2, none⟩ = some (.int .i64 b0) := (Wx_21.out).cell 2
  have cWx3 : w21.cell? ⟨w3.heap.size, 3, none⟩ = some (.int .i64 a1) := (Wx_21.out).cell 3
  have cWx4 : w21.cell? ⟨w3.heap.size, 4, none⟩ = some (.slice (some ⟨WM, 0, none⟩) Wr.length Wc) := (Wx_21.out).cell 4
  have cWy0 : w21.cell? ⟨(w3.heap.size + 1), 0, none⟩ = some (.int .i64 n0) := (Wy_21.out).cell 0
  have cWy1 : w21.cell? ⟨(w3.heap.size + 1), 1, none⟩ = some (.slice (some ⟨WK2, 0, none⟩) key0.length Wd2) := (Wy_21.out).cell 1
  have cWy2 : w21.cell? ⟨(w3.heap.size + 1), 2, none⟩ = some (.int .i64 a1) := (Wy_21.out).cell 2
  have cWy3 : w21.cell? ⟨(w3.heap.size + 1), 3, none⟩ = some (.slice (some ⟨WM2, 0, none⟩) Wr2.length Wc2) := (Wy_21.out).cell 3
  have cGx0 : w21.cell? ⟨w5.heap.size, 0, none⟩ = some (.int .i64 n0) := (Gx_21.out).cell 0
  have cGx1 : w21.cell? ⟨w5.heap.size, 1, none⟩ = some (.slice (some ⟨GK, 0, none⟩) key0.length Gd) := (Gx_21.out).cell 1
  have cGx2 : w21.cell? ⟨w5.heap.size, 2, none⟩ = some (.int .i64 b0) := (Gx_21.out).cell 2
  have cGx3 : w21.cell? ⟨w5.heap.size, 3, none⟩ = some (.int .i64 a1) := (Gx_21.out).cell 3
  have cGx4 : w21.cell? ⟨w5.heap.size, 4, none⟩ = some (.slice (some ⟨GM, Gf, none⟩) Gr.length Gc) := (Gx_21.out).cell 4
  have cGy0 : w21.cell? ⟨(w5.heap.size + 1), 0, none⟩ = some (.int .i64 n0) := (Gy_21.out).cell 0
  have cGy1 : w21.cell? ⟨(w5.heap.size + 1), 1, none⟩ = some (.slice (some ⟨GK2, 0, none⟩) key0.length Gd2) := (Gy_21.out).cell 1
  have cGy2 : w21.cell? ⟨(w5.heap.size + 1), 2, none⟩ = some (.int .i64 a1) := (Gy_21.out).cell 2
  have cGy3 : w21.cell? ⟨(w5.heap.size + 1), 3, none⟩ = some (.slice (some ⟨GM2, Gf2, none⟩) Gr2.length Gc2) := (Gy_21.out).cell 3
  have cVx0 : w21.cell? ⟨w17.heap.size, 0, none⟩ = some (.int .i64 n0) := (Vx_21.out).cell 0
  have cVx1 : w21.cell? ⟨w17.heap.size, 1, none⟩ = some (.slice (some ⟨VK, 0, none⟩) key0.length Vd) := (Vx_21.out).cell 1
  have cVx2 : w21.cell? ⟨w17.heap.size, 2, none⟩ = some (.int .i64 b0) := (Vx_21.out).cell 2
  have cVx3 : w21.cell? ⟨w17.heap.size, 3, none⟩ = some (.int .i64 a1) := (Vx_21.out).cell 3
  have cVx4 : w21.cell? ⟨w17.heap.size, 4, none⟩ = some (.slice (some ⟨VM, Vf, none⟩) Vr.length Vc) := (Vx_21.out).cell 4
  have cVy0 : w21.cell? ⟨(w17.heap.size + 1), 0, none⟩ = some (.int .i64 n0) := (Vy_21.out).cell 0
  have cVy1 : w21.cell? ⟨(w17.heap.size + 1), 1, none⟩ = some (.slice (some ⟨VK2, 0, none⟩) key0.length Vd2) := (Vy_21.out).cell 1
  have cVy2 : w21.cell? ⟨(w17.heap.size + 1), 2, none⟩ = some (.int .i64 a1) := (Vy_21.out).cell 2
  have cVy3 : w21.cell? ⟨(w17.heap.size + 1), 3, none⟩ = some (.slice (some ⟨VM2, Vf2, none⟩) Vr2.length Vc2) := (Vy_21.out).cell 3
  go_wp2
  go_ret
  exact ⟨rfl, B21.out⟩
theorem own : ownKnob Try.prog.godebug = none := by kernel_rfl
theorem laidOut : laidOutB Try.prog = true := by kernel_rfl
set_option maxRecDepth 100000 in
theorem lifted (os : Os) (started : os.Started) (H : Type) (enc : TypeId × Value → H) :
    ReturnsInHanded {} Try.checked os 8 .any (Rows.fnExactFlushSpec.pre6 enc Try.prog Try.f8 Rows.fnExactFlushRow.domain false) (Rows.fnExactFlushSpec.post enc Try.prog Try.f8 false true false false) := by
  refine returnsInHanded_of_change (C := Try.checked) own started (by kernel_rfl) Try.func8
    (ChangeSpec.witness6 (enc := enc) (C := Try.checked) false ⟨#[], #[.agg #[.int .i64 0, .slice none 0 0, .int .i64 0, .int .i64 0, .slice none 0 0], .int .i64 0], []⟩ 8 (by kernel_rfl) (by kernel_rfl) (by kernel_rfl) (by kernel_rfl)) ?_
  intro W base args ds gs before hval0 hW hcnd _
  have hval : ∀ (j : Nat) t v, Try.f8.params[j]? = some t → args[j]? = some v → Value.okWide Try.prog W .any base t v := hval0
  have hW' := hW
  obtain ⟨p, q, hA0, hV, rfl, hfz, hnd⟩ := hW
  have hA : DataW.TrodAll enc Try.prog W 0 (fun _ => true) true Try.f8.params.toList args.toList ds p := hA0
  rw [Try.params8] at hA hval
  obtain ⟨v0, vs0, d0, ds0, p0, q0, hargs, rfl, rfl, h0, r0⟩ := trodAll_cons hA
  obtain ⟨v1, vs1, d1, ds1, p1, q1, rfl, rfl, rfl, h1, r1⟩ := trodAll_cons r0
  obtain ⟨rfl, rfl, rfl⟩ := trodAll_nil r1
  obtain rfl : args = #[v0, v1] := by cases args; simp_all
  obtain ⟨rfl, rfl⟩ := trodVars_none hV
  have k0 := h0
  have lt0 : ∀ x ∈ p0, x.block < W.heap.size := by obtain ⟨m, hm⟩ := k0; exact DataW.trod_lt m _ _ _ hm
  obtain ⟨n0, b0, t0, ka0, kc0, key0, a0, cap0, l0, rfl, u0, q0, y0, w0, m0, z0, xn0, xb0, xt0⟩ := Go.Proofs.Ytekcmpjjfnijmaa.Grp.open_group (hval 0 58 v0 rfl rfl) h0
  obtain ⟨a1, rfl, rfl, rfl, w1⟩ := open_int Try.underlying3 (hval 1 3 v1 rfl rfl) h1
  clear hA0 hval0
  refine (walk n0 b0 t0 ka0 kc0 key0 a0 cap0 l0 a1 W u0 q0 y0 w0 m0 z0 w1).mono fun e W' ⟨he, bel⟩ => ?_
  subst he
  exact ⟨_, rfl, _, _, _, [], _, [], hW', trodAll_mk1 (shut_bool Try.underlying4 _), (trodAll_cons_mk (Below.trod laidOut (by kernel_rfl) (of_decide_eq_true (by kernel_rfl)) k0 bel lt0) (trodAll_cons_mk (shut_int Try.underlying3 w1) trodAll_mk0)), rfl, bel.frame _, fun h => by cases h⟩

theorem over : Rows.fnExactFlushRow.holds Try.pinned (OpenSpec.ofChange Rows.fnExactFlushSpec) :=
  OpenClaim.holds_of_wide 8 Try.f8 rfl rfl rfl rfl rfl rfl rfl ⟨rfl, rfl, rfl, rfl, rfl⟩ rfl rfl rfl rfl rfl (by kernel_rfl) Try.func8 (by kernel_rfl)
    (of_decide_eq_true (by kernel_rfl)) (by unfold Func.isWrapper; first | (rw [if_pos (by decide +kernel)]; kernel_rfl) | (rw [if_neg (by decide +kernel)]; exact ⟨rfl, rfl⟩))
    (fun os started H enc _ => lifted os started H enc)

end Go.Proofs.Ytekcmpjjfnijmaa.FnExactFlush
namespace Go.Proofs.Ytekcmpjjfnijmaa
theorem fnExactFlush_holds : Rows.FnExactFlushSaid := FnExactFlush.over
#print axioms fnExactFlush_holds
end Go.Proofs.Ytekcmpjjfnijmaa
