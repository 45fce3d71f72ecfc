/-
  PROVED: at every group and every alarm impl.JoinIn answers as spec.JoinIn, leaves them as they were, keeps nothing of them, and its answer lies in memory of its own, so the law laws.FnExactJoinIn returns true, whatever its arguments. No condition.
-/
import Derived.Test.YtekcmpjjfnijmaaRows
import Derived.WalkKit
import Derived.ProofKit
import Derived.OpenShut
import Derived.ShutString
import Derived.ChangeOld
import Derived.Below
import Derived.WalkLawsBesides
import Derived.WalkSpells
import Derived.Test.YtekcmpjjfnijmaaGrpI
import Derived.Test.YtekcmpjjfnijmaaGrpJ
import Derived.Test.YtekcmpjjfnijmaaMark
import Derived.Deep.RegionHeld3
import Derived.Deep.DeepCutAuto
namespace Go.Proofs.Ytekcmpjjfnijmaa.FnExactJoinIn
open Go.ChangeShapes Go.WideShapes Go.ChangeAt Go.RowKit
open Go.ChangeMaps (open_string shut_string)
set_option linter.unusedVariables false

open Go.Proofs.Ytekcmpjjfnijmaa.Labs Go.Proofs.Ytekcmpjjfnijmaa.LabS Go.Proofs.Ytekcmpjjfnijmaa.Over Go.Proofs.Ytekcmpjjfnijmaa.Blk Go.Proofs.Ytekcmpjjfnijmaa.Alms Go.Proofs.Ytekcmpjjfnijmaa.Rws Go.Proofs.Ytekcmpjjfnijmaa.ChnC Go.Proofs.Ytekcmpjjfnijmaa.ChnK Go.Proofs.Ytekcmpjjfnijmaa.Grp
open Go.Proofs.Ytekcmpjjfnijmaa.GrpJ
open Go.Proofs.Ytekcmpjjfnijmaa.Alm (AlIn)
open Go.Proofs.Ytekcmpjjfnijmaa.LabT (held_reads Fits)
theorem bel_alloc {z w : World} (h : Below z.heap.size z w) (o : Obj) : Below z.heap.size z (w.alloc o) := h.alloc h.size o
theorem set5 {B M : Nat} {w w' : World} (h : Below B w w') (hM : B ≤ M) (v0 v1 v2 v3 v4 : Value) : Below B w (((((w'.setCell ⟨M, 0, none⟩ v0).setCell ⟨M, 1, none⟩ v1).setCell ⟨M, 2, none⟩ v2).setCell ⟨M, 3, none⟩ v3).setCell ⟨M, 4, none⟩ v4) := ((((h.setCell hM _).setCell hM _).setCell hM _).setCell hM _).setCell hM _
theorem put5 {w : World} {M : Nat} {x0 x1 x2 x3 x4 : Value} {T : TypeId} (h : Blk w M #[x0, x1, x2, x3, x4] T) (v0 v1 v2 v3 v4 : Value) : Blk (((((w.setCell ⟨M, 0, none⟩ v0).setCell ⟨M, 1, none⟩ v1).setCell ⟨M, 2, none⟩ v2).setCell ⟨M, 3, none⟩ v3).setCell ⟨M, 4, none⟩ v4) M #[v0, v1, v2, v3, v4] T := ((((h.set 0 _).set 1 _).set 2 _).set 3 _).set 4 _
theorem gb_set5 {lo : Nat} {w : World} {Ke M o N : Nat} {key : List Lab} {rs : List ARow} (h : GB lo w Ke key M o rs) (hN : ∀ k, gblks Ke M rs k → k ≠ N) (v0 v1 v2 v3 v4 : Value) : GB lo (((((w.setCell ⟨N, 0, none⟩ v0).setCell ⟨N, 1, none⟩ v1).setCell ⟨N, 2, none⟩ v2).setCell ⟨N, 3, none⟩ v3).setCell ⟨N, 4, none⟩ v4) Ke key M o rs :=
  h.only (S := fun k => k = N) ((((((Only.refl (fun k => k = N) w).set rfl 0 v0).set rfl 1 v1).set rfl 2 v2).set rfl 3 v3).set rfl 4 v4) hN
theorem sum_set (x : PAl) : ∀ (P : List PAl) (k : Nat), sumL (P.set k x) ≤ sumL P + x.l.length
  | [], k => by simp [sumL]
  | y :: P, 0 => by simp only [List.set_cons_zero, sumL]; omega
  | y :: P, k + 1 => by have := sum_set x P k; simp only [List.set_cons_succ, sumL]; omega
theorem join_sum {P J : List PAl} {x : PAl} (h : joinG P x = J) : J.length ≤ P.length + 1 ∧ sumL J ≤ sumL P + x.l.length := by
  subst h
  refine ⟨join_len P x, ?_⟩
  unfold joinG
  split
  · exact sum_set _ _ _
  · rename_i e
    have h1 := sum_app (P.take (posG P x.l)) (P.drop (posG P x.l))
    rw [List.take_append_drop] at h1
    rw [sum_app]
    simp only [sumL]
    omega
theorem join_fits {P J : List PAl} {x : PAl} (h : joinG P x = J) (hz : FitsP P) (hx : FitA x) : FitsP J := by
  subst h
  refine fits_of fun y hy => ?_
  unfold joinG at hy
  split at hy
  · rcases List.mem_or_eq_of_mem_set hy with h | h
    · exact fits_mem hz h
    · rw [h]; exact hx
  · rcases List.mem_append.1 hy with h | h
    · exact fits_mem hz (List.mem_of_mem_take h)
    · rcases List.mem_cons.1 h with h | h
      · rw [h]; exact hx
      · exact fits_mem hz (List.mem_of_mem_drop h)
theorem marks_of {rs : List ARow} {P : List PAl} (h : pals rs = P) : sumA rs = 2 * sumL P + 3 * P.length := by
  have h2 : rs.length = P.length := by rw [← h, pals_len]
  rw [sumA_pals, h, h2]
theorem eqG_any (n b t : Int) (ka ka' : Option Addr) (kc kc' : Nat) (key : List Lab) (a a' : Option Addr) (c c' : Nat) (rs rs' : List ARow) (P : List PAl) (w : World) (hk : Reads w ka key) (hk' : Reads w ka' key) (hkl : key.length ≤ maxLen) (h : RdN w a (pals rs)) (h' : RdN w a' (pals rs')) (hp : pals rs = P) (hp' : pals rs' = P) (hl : P.length ≤ maxLen) (hz : FitsP P) :
    Calls Try.prog 35 #[.agg #[.int .i64 n, .slice ka key.length kc, .int .i64 b, .int .i64 t, .slice a rs.length c], .agg #[.int .i64 n, .slice ka' key.length kc', .int .i64 b, .int .i64 t, .slice a' rs'.length c']] w fun e w' => e = .returned (.bool true) ∧ Below w.heap.size w w' := by
  rw [hp] at h
  rw [hp'] at h'
  have e1 : rs.length = P.length := by rw [← hp, pals_len]
  have e2 : rs'.length = P.length := by rw [← hp', pals_len]
  rw [e1, e2]
  exact Grp.eqGroup_any n b t ka ka' kc kc' key a a' c c' P w hk hk' hkl h.rd h'.rd hl hz
theorem specJ (n b t : Int) (gk ok kc : Nat) (key : List Lab) (gl ol cap : Nat) (P JL : List PAl) (gx ox cx : Nat) (x : PAl) (hJ : joinG P x = JL) (w : World) (hk : Reads w (some ⟨gk, ok, none⟩) key) (hkl : key.length ≤ 1048576) (hr : RdN w (some ⟨gl, ol, none⟩) P) (hl : P.length ≤ 1048576) (hs : LenM P) (hc : P.length ≤ cap ∧ cap ≤ maxLen) (hx : Reads w (some ⟨gx, ox, none⟩) x.l) (hxl : x.l.length ≤ 1048576) :
    Calls Try.prog 20 #[.agg #[.int .i64 n, .slice (some ⟨gk, ok, none⟩) key.length kc, .int .i64 b, .int .i64 t, .slice (some ⟨gl, ol, none⟩) P.length cap], .agg #[.slice (some ⟨gx, ox, none⟩) x.l.length cx, .int .i64 x.s, .int .i64 x.e, .string x.n]] w fun e w' => (∃ Ke kd M o c rs, e = .returned (.agg #[.int .i64 n, .slice (some ⟨Ke, 0, none⟩) key.length kd, .int .i64 b, .int .i64 t, .slice (some ⟨M, o, none⟩) rs.length c]) ∧ GB w.heap.size w' Ke key M o rs ∧ pals rs = JL) ∧ Below w.heap.size w w' := by
  subst hJ
  exact (specJoin_any n b t gk ok kc key gl ol cap P gx ox cx x w hk hkl hr hl hs hc hx hxl).mono fun e w' ⟨⟨Ke, kd, M, c, rs, he, h1, _, h2⟩, hb⟩ => ⟨⟨Ke, kd, M, 0, c, rs, he, h1, h2⟩, hb⟩
theorem implJ (n b t : Int) (gk ok kc : Nat) (key : List Lab) (gl ol cap : Nat) (P JL : List PAl) (gx ox cx : Nat) (x : PAl) (hJ : joinG P x = JL) (w : World) (hk : Reads w (some ⟨gk, ok, none⟩) key) (hkl : key.length ≤ 1048576) (hr : RdN w (some ⟨gl, ol, none⟩) P) (hl : P.length ≤ 1048576) (hs : LenM P) (hc : P.length ≤ cap ∧ cap ≤ maxLen) (hx : Reads w (some ⟨gx, ox, none⟩) x.l) (hxl : x.l.length ≤ 1048576) :
    Calls Try.prog 11 #[.agg #[.int .i64 n, .slice (some ⟨gk, ok, none⟩) key.length kc, .int .i64 b, .int .i64 t, .slice (some ⟨gl, ol, none⟩) P.length cap], .agg #[.slice (some ⟨gx, ox, none⟩) x.l.length cx, .int .i64 x.s, .int .i64 x.e, .string x.n]] w fun e w' => (∃ Ke kd M o c rs, e = .returned (.agg #[.int .i64 n, .slice (some ⟨Ke, 0, none⟩) key.length kd, .int .i64 b, .int .i64 t, .slice (some ⟨M, o, none⟩) rs.length c]) ∧ GB w.heap.size w' Ke key M o rs ∧ pals rs = JL) ∧ Below w.heap.size w w' := by
  subst hJ
  exact GrpI.implJoin_any n b t gk ok kc key gl ol cap P gx ox cx x w hk hkl hr hl hs hc hx hxl
theorem rdP {lo : Nat} {w : World} {K M o : Nat} {key : List Lab} {rs : List ARow} {P : List PAl} (h : GB lo w K key M o rs) (hp : pals rs = P) : RdN w (some ⟨M, o, none⟩) P := by have := h.row.rd; rwa [hp] at this
theorem len_m {P : List PAl} (h : LenM P) : ChnI.LenP P := ChnP.len_m h
theorem len_of {rs : List ARow} {P : List PAl} (h : pals rs = P) : rs.length = P.length := by rw [← h, pals_len]
set_option maxRecDepth 100000 in
set_option maxHeartbeats 8000000 in
theorem walk (n0 b0 t0 : Int) (ka0 : Option Addr) (kc0 : Nat) (key0 : List Lab) (a0 : Option Addr) (cap0 : Nat) (l0 : List PAl) (a1 : Option Addr) (cap1 : Nat) (l1 : List Lab) (s1 e1 : Int) (n1 : ByteArray) (w : World) (u0 : Reads w ka0 key0) (q0 : key0.length ≤ maxLen) (y0 : Fits key0) (r0 : RdA w a0 l0) (m0 : l0.length ≤ maxLen) (z0 : FitsP l0) (g1 : AlIn w a1 l1 s1 e1 n1) :
    Calls Try.prog 7 #[.agg #[.int .i64 n0, .slice ka0 key0.length kc0, .int .i64 b0, .int .i64 t0, .slice a0 l0.length cap0], .agg #[.slice a1 l1.length cap1, .int .i64 s1, .int .i64 e1, .string n1]] w fun e w' => e = .returned (.bool true) ∧ Below w.heap.size w w' := by
  have U0 : Hid (Reads w ka0 key0) := u0
  have Q0k : Hid (key0.length ≤ maxLen ∧ Fits key0) := ⟨q0, y0⟩
  have R0 : Hid (RdA w a0 l0) := r0
  have M0 : Hid (l0.length ≤ maxLen) := m0
  have F0 : Hid (FitsP l0) := z0
  clear u0 q0 y0 r0 m0 z0
  have R1 : Hid (Reads w a1 l1) := g1.reads
  have M1 : Hid (l1.length ≤ maxLen) := g1.len
  have G1 : Hid (AlIn w a1 l1 s1 e1 n1) := g1
  clear g1
  have B0 : Hid (Below w.heap.size w w) := Below.refl _ _
  go_enter Try.func7, Try.ntmps7
  go_wp2_with fail
  refine (Grp.szGroup_any n0 b0 t0 ka0 kc0 key0 a0 cap0 l0 1048576 _ (U0.out.below (grow_on B0.out (Go.Joins.below_alloc2 w _ _))) Q0k.out.1 Q0k.out.2 (R0.out.below (grow_on B0.out (Go.Joins.below_alloc2 w _ _))) M0.out F0.out (by omega) (by omega)).mono ?_
  rintro e w1 ⟨⟨k0, rfl, p0, hn⟩, hb⟩
  have P0_1 : Hid (Blk w1 w.heap.size #[.int .i64 n0, .slice ka0 key0.length kc0, .int .i64 b0, .int .i64 t0, .slice a0 l0.length cap0] 58) := ((Blk.new _ _ _).alloc _).grow hb
  have U_P0 : Hid (w.heap.size ≤ w.heap.size ∧ w.heap.size < w1.heap.size) := ⟨by omega, P0_1.out.lt⟩
  have P1_1 : Hid (Blk w1 (w.heap.size + 1) #[.slice a1 l1.length cap1, .int .i64 s1, .int .i64 e1, .string n1] 72) := (Blk.new_at (by simp)).grow hb
  have U_P1 : Hid (w.heap.size ≤ (w.heap.size + 1) ∧ (w.heap.size + 1) < w1.heap.size) := ⟨by omega, P1_1.out.lt⟩
  replace hb := grow_on (Go.Joins.below_alloc2 w _ _) hb
  have B1 : Hid (Below w.heap.size w w1) := grow_on B0.out hb
  have Z1 : Hid (w.heap.size ≤ w1.heap.size) := hb.size
  clear hb
  by_cases g0 : k0 < 0
  · clear hn
    go_wp2
    go_ret
    exact ⟨rfl, B1.out⟩
  have K0 : Hid (key0.length ≤ 1048576 ∧ l0.length ≤ 1048576 ∧ sumL l0 ≤ 1048576 ∧ key0.length + l0.length + sumL l0 ≤ 1048576) := by have := hn (by omega); exact ⟨by omega, by omega, by omega, by omega⟩
  have N0 : Hid (LenM l0) := fun q hq => Nat.le_trans (sum_nth hq) K0.out.2.2.1
  clear hn
  have cP00 : w1.cell? ⟨w.heap.size, 0, none⟩ = some (.int .i64 n0) := (P0_1.out).cell 0
  have cP01 : w1.cell? ⟨w.heap.size, 1, none⟩ = some (.slice ka0 key0.length kc0) := (P0_1.out).cell 1
  have cP02 : w1.cell? ⟨w.heap.size, 2, none⟩ = some (.int .i64 b0) := (P0_1.out).cell 2
  have cP03 : w1.cell? ⟨w.heap.size, 3, none⟩ = some (.int .i64 t0) := (P0_1.out).cell 3
  have cP04 : w1.cell? ⟨w.heap.size, 4, none⟩ = some (.slice a0 l0.length cap0) := (P0_1.out).cell 4
  have cP10 : w1.cell? ⟨(w.heap.size + 1), 0, none⟩ = some (.slice a1 l1.length cap1) := (P1_1.out).cell 0
  have cP11 : w1.cell? ⟨(w.heap.size + 1), 1, none⟩ = some (.int .i64 s1) := (P1_1.out).cell 1
  have cP12 : w1.cell? ⟨(w.heap.size + 1), 2, none⟩ = some (.int .i64 e1) := (P1_1.out).cell 2
  have cP13 : w1.cell? ⟨(w.heap.size + 1), 3, none⟩ = some (.string n1) := (P1_1.out).cell 3
  go_wp2_with fail
  refine (Alm.sz_any a1 cap1 l1 s1 e1 n1 k0 _ (G1.out.below B1.out) (by omega) (by omega)).mono ?_
  rintro e w2 ⟨⟨k1, rfl, p1, hn⟩, hb⟩
  have B2 : Hid (Below w.heap.size w w2) := grow_on B1.out hb
  have Z2 : Hid (w1.heap.size ≤ w2.heap.size) := hb.size
  have P0_2 : Hid (Blk w2 w.heap.size #[.int .i64 n0, .slice ka0 key0.length kc0, .int .i64 b0, .int .i64 t0, .slice a0 l0.length cap0] 58) := P0_1.out.grow hb
  have P1_2 : Hid (Blk w2 (w.heap.size + 1) #[.slice a1 l1.length cap1, .int .i64 s1, .int .i64 e1, .string n1] 72) := P1_1.out.grow hb
  clear hb cP00 cP01 cP02 cP03 cP04 cP10 cP11 cP12 cP13
  by_cases g1 : k1 < 0
  · clear hn
    go_wp2
    go_ret
    exact ⟨rfl, B2.out⟩
  have K1 : Hid (l1.length ≤ 1048576) := by have := hn (by omega); show l1.length ≤ 1048576; omega
  clear hn
  obtain ⟨JL, hJ⟩ : ∃ JL, joinG l0 (⟨l1, s1, e1, n1⟩ : PAl) = JL := ⟨_, rfl⟩
  have HJ : Hid (joinG l0 (⟨l1, s1, e1, n1⟩ : PAl) = JL) := hJ
  have hq := join_sum hJ
  have h5 : (⟨l1, s1, e1, n1⟩ : PAl).l.length = l1.length := rfl
  rw [h5] at hq
  have PF : Hid (JL.length ≤ maxLen ∧ FitsP JL) := ⟨by have h1 := hq.1; have h2 := K0.out; exact ChnK.len_max (by omega), join_fits hJ F0.out ⟨M1.out, G1.out.fits, G1.out.sb, G1.out.eb, G1.out.note⟩⟩
  have PS : Hid (JL.length ≤ l0.length + 1 ∧ sumL JL ≤ sumL l0 + l1.length) := hq
  clear hq hJ h5
  have cP00 : w2.cell? ⟨w.heap.size, 0, none⟩ = some (.int .i64 n0) := (P0_2.out).cell 0
  have cP01 : w2.cell? ⟨w.heap.size, 1, none⟩ = some (.slice ka0 key0.length kc0) := (P0_2.out).cell 1
  have cP02 : w2.cell? ⟨w.heap.size, 2, none⟩ = some (.int .i64 b0) := (P0_2.out).cell 2
  have cP03 : w2.cell? ⟨w.heap.size, 3, none⟩ = some (.int .i64 t0) := (P0_2.out).cell 3
  have cP04 : w2.cell? ⟨w.heap.size, 4, none⟩ = some (.slice a0 l0.length cap0) := (P0_2.out).cell 4
  have cP10 : w2.cell? ⟨(w.heap.size + 1), 0, none⟩ = some (.slice a1 l1.length cap1) := (P1_2.out).cell 0
  have cP11 : w2.cell? ⟨(w.heap.size + 1), 1, none⟩ = some (.int .i64 s1) := (P1_2.out).cell 1
  have cP12 : w2.cell? ⟨(w.heap.size + 1), 2, none⟩ = some (.int .i64 e1) := (P1_2.out).cell 2
  have cP13 : w2.cell? ⟨(w.heap.size + 1), 3, none⟩ = some (.string n1) := (P1_2.out).cell 3
  go_upto_region 8 with fail
  clear cP00 cP01 cP02 cP03 cP04 cP10 cP11 cP12 cP13
  have HS : Hid (∀ w', Blk w' w.heap.size #[.int .i64 n0, .slice ka0 key0.length kc0, .int .i64 b0, .int .i64 t0, .slice a0 l0.length cap0] 58 → Blk w' (w.heap.size + 1) #[.slice a1 l1.length cap1, .int .i64 s1, .int .i64 e1, .string n1] 72 → w'.cell? ⟨w.heap.size, 0, none⟩ = some (.int .i64 n0) ∧ w'.cell? ⟨w.heap.size, 1, none⟩ = some (.slice ka0 key0.length kc0) ∧ w'.cell? ⟨w.heap.size, 2, none⟩ = some (.int .i64 b0) ∧ w'.cell? ⟨w.heap.size, 3, none⟩ = some (.int .i64 t0) ∧ w'.cell? ⟨w.heap.size, 4, none⟩ = some (.slice a0 l0.length cap0) ∧ w'.cell? ⟨(w.heap.size + 1), 0, none⟩ = some (.slice a1 l1.length cap1) ∧ w'.cell? ⟨(w.heap.size + 1), 1, none⟩ = some (.int .i64 s1) ∧ w'.cell? ⟨(w.heap.size + 1), 2, none⟩ = some (.int .i64 e1) ∧ w'.cell? ⟨(w.heap.size + 1), 3, none⟩ = some (.string n1)) := fun w' h k => ⟨h.cell 0, h.cell 1, h.cell 2, h.cell 3, h.cell 4, k.cell 0, k.cell 1, k.cell 2, k.cell 3⟩
  go_cut [6] from 24 to 29 (fun s6 wx => ∃ (N Ke d M f c : Nat) (rs : List ARow), s6 = .pointer (some ⟨N, 0, none⟩) ∧ Blk wx N #[.int .i64 n0, .slice (some ⟨Ke, 0, none⟩) key0.length d, .int .i64 b0, .int .i64 t0, .slice (some ⟨M, f, none⟩) rs.length c] 27 ∧ GB w2.heap.size wx Ke key0 M f rs ∧ pals rs = JL ∧ w2.heap.size ≤ N ∧ Below w2.heap.size w2 wx ∧ ∀ k, gblks Ke M rs k → k ≠ N)
  case first =>
    refine wp_region_held_drew (S := fun w' => w'.cell? ⟨w.heap.size, 0, none⟩ = some (.int .i64 n0) ∧ w'.cell? ⟨w.heap.size, 1, none⟩ = some (.slice ka0 key0.length kc0) ∧ w'.cell? ⟨w.heap.size, 2, none⟩ = some (.int .i64 b0) ∧ w'.cell? ⟨w.heap.size, 3, none⟩ = some (.int .i64 t0) ∧ w'.cell? ⟨w.heap.size, 4, none⟩ = some (.slice a0 l0.length cap0) ∧ w'.cell? ⟨(w.heap.size + 1), 0, none⟩ = some (.slice a1 l1.length cap1) ∧ w'.cell? ⟨(w.heap.size + 1), 1, none⟩ = some (.int .i64 s1) ∧ w'.cell? ⟨(w.heap.size + 1), 2, none⟩ = some (.int .i64 e1) ∧ w'.cell? ⟨(w.heap.size + 1), 3, none⟩ = some (.string n1)) (by kernel_rfl) (HS.out _ P0_2.out.drew P1_2.out.drew) (fun hHeld => ?_)
    refine wpAnyH_take (i := 0) (oi := { dst := some 24, op := Op.load 58 (Operand.tmp 2), type := 58, pos := "exact.go:4141", after := #[], guard := none }) (v := ?vW1) rfl (by kernel_rfl) (by kernel_rfl) (by kernel_rfl) (fun _ _ _ h => h) (Or.inl ⟨by rfl, ?hyW1⟩) hHeld ?_
    case hyW1 => (intro w hSw; (try dsimp only at hSw); go_simp <;> with_reducible rfl)
    try simp only [Act.put, List.setIfInBounds_toArray, List.set_cons_zero, List.set_cons_succ]
    refine wpAnyH_take (i := 2) (oi := { dst := some 26, op := Op.load 72 (Operand.tmp 3), type := 72, pos := "exact.go:4141", after := #[], guard := none }) (v := ?vW2) rfl (by kernel_rfl) (by kernel_rfl) (by kernel_rfl) (fun _ _ _ h => h) (Or.inl ⟨by rfl, ?hyW2⟩) hHeld ?_
    case hyW2 => (intro w hSw; (try dsimp only at hSw); go_simp <;> with_reducible rfl)
    try simp only [Act.put, List.setIfInBounds_toArray, List.set_cons_zero, List.set_cons_succ]
    refine wpAnyH_ready (rs := [1, 5]) (by kernel_rfl) (by simp) ?_
    refine AllReadyH.cons (o := { dst := some 25, op := Op.call { callee := Callee.value (Operand.func 33), args := #[Operand.tmp 24], argTypes := #[58] }, type := 27, pos := "exact.go:4141", after := #[{ on := 0, ground := Ground.data }], guard := none }) rfl (fun K hK => ?_) ?_
    ·
      go_simp
      refine (Grp.toGroup_any n0 b0 t0 ka0 kc0 key0 a0 cap0 l0 _ (U0.out.below (grow_on B2.out ((Below.refl w2.heap.size w2).drew))) K0.out.1 (R0.out.below (grow_on B2.out ((Below.refl w2.heap.size w2).drew))) K0.out.2.1 K0.out.2.2.1).mono ?_
      rintro r wa ⟨⟨TK, TM, Tr, rfl, hG, -, hP⟩, hy⟩
      have ZA : Hid (Below w2.heap.size w2 wa) := grow_on ((Below.refl w2.heap.size w2).drew) hy
      have TA : Hid (Reads wa (some ⟨TK, 0, none⟩) key0 ∧ RdN wa (some ⟨TM, 0, none⟩) l0) := ⟨hG.key.rd, rdP hG hP⟩
      clear hG hP hy
      clear hHeld
      refine hK.out _ _ (HS.out _ (P0_2.out.grow (ZA.out)) (P1_2.out.grow (ZA.out))) (fun hHeld => ?_)
      clear hK K
      try simp only [Act.put, List.setIfInBounds_toArray, List.set_cons_zero, List.set_cons_succ]
      refine wpAnyH_ready (rs := [3, 5]) (by kernel_rfl) (by simp) ?_
      refine AllReadyH.cons (o := { dst := some 27, op := Op.call { callee := Callee.value (Operand.func 41), args := #[Operand.tmp 26], argTypes := #[72] }, type := 29, pos := "exact.go:4141", after := #[{ on := 2, ground := Ground.data }, { on := 1, ground := Ground.chain }], guard := none }) rfl (fun K hK => ?_) ?_
      ·
        go_simp
        refine (Alm.to_any a1 cap1 l1 s1 e1 n1 _ (R1.out.below (grow_on B2.out (ZA.out))) K1.out).mono ?_
        rintro r wb ⟨⟨AM, Acs, rfl, -, hk, -, hh⟩, hy⟩
        have ZB : Hid (Below w2.heap.size w2 wb) := grow_on (ZA.out) hy
        have TB : Hid (Reads wb (some ⟨TK, 0, none⟩) key0 ∧ RdN wb (some ⟨TM, 0, none⟩) l0 ∧ Reads wb (some ⟨AM, 0, none⟩) l1) := ⟨TA.out.1.below (grow_on (Below.refl _ _) hy), TA.out.2.below (grow_on (Below.refl _ _) hy), held_reads hk hh⟩
        clear hk hh hy
        clear hHeld
        refine hK.out _ _ (HS.out _ (P0_2.out.grow (ZB.out)) (P1_2.out.grow (ZB.out))) (fun hHeld => ?_)
        clear hK K
        try simp only [Act.put, List.setIfInBounds_toArray, List.set_cons_zero, List.set_cons_succ]
        refine wpAnyH_ready (rs := [4, 5]) (by kernel_rfl) (by simp) ?_
        refine AllReadyH.cons (o := { dst := some 28, op := Op.call { callee := Callee.value (Operand.func 20), args := #[Operand.tmp 25, Operand.tmp 27], argTypes := #[27, 29] }, type := 27, pos := "exact.go:4141", after := #[{ on := 1, ground := Ground.data }, { on := 3, ground := Ground.data }, { on := 3, ground := Ground.chain }], guard := none }) rfl (fun K hK => ?_) ?_
        ·
          go_simp
          refine (specJ n0 b0 t0 TK 0 _ key0 TM 0 _ l0 JL AM 0 _ (⟨l1, s1, e1, n1⟩ : PAl) HJ.out _ (TB.out.1.below (Below.refl _ _)) K0.out.1 (TB.out.2.1.below (Below.refl _ _)) K0.out.2.1 N0.out ⟨Nat.le_refl _, M0.out⟩ (TB.out.2.2.below (Below.refl _ _)) K1.out).mono ?_
          rintro r wc ⟨⟨OK, Od, OM, Of, Oc, Or, rfl, hG, hP⟩, hy⟩
          have ZC : Hid (Below w2.heap.size w2 wc) := grow_on (ZB.out) hy
          have OA : Hid (GB w2.heap.size wc OK key0 OM Of Or ∧ pals Or = JL) := ⟨hG.down (ZB.out).size, hP⟩
          clear hG hP hy
          try dsimp only
          clear hHeld
          refine hK.out _ _ (HS.out _ (P0_2.out.grow (ZC.out)) (P1_2.out.grow (ZC.out))) (fun hHeld => ?_)
          clear hK K
          try simp only [Act.put, List.setIfInBounds_toArray, List.set_cons_zero, List.set_cons_succ]
          refine wpAnyH_ready (rs := [5]) (by kernel_rfl) (by simp) ?_
          refine AllReadyH.cons (o := { dst := some 6, op := Op.alloc 27, type := 0, pos := "exact.go:4141", after := #[], guard := none }) rfl (fun K hK => ?_) AllReadyH.nil
          go_simp
          clear hHeld
          refine hK.out _ _ (HS.out _ (P0_2.out.grow (bel_alloc (ZC.out) _)) (P1_2.out.grow (bel_alloc (ZC.out) _))) (fun hHeld => ?_)
          clear hK K
          try simp only [Act.put, List.setIfInBounds_toArray, List.set_cons_zero, List.set_cons_succ]
          refine wpAnyH_ready (rs := [6]) (by kernel_rfl) (by simp) ?_
          refine AllReadyH.cons (o := { dst := none, op := Op.store 27 (Operand.tmp 6) (Operand.tmp 28), type := 0, pos := "exact.go:4141", after := #[{ on := 5, ground := Ground.data }, { on := 4, ground := Ground.data }, { on := 4, ground := Ground.chain }, { on := 0, ground := Ground.phase }, { on := 1, ground := Ground.phase }, { on := 2, ground := Ground.phase }, { on := 3, ground := Ground.phase }, { on := 4, ground := Ground.phase }, { on := 5, ground := Ground.phase }], guard := none }) rfl (fun K hK => ?_) AllReadyH.nil
          go_simp
          clear hHeld
          refine hK.out _ _ (HS.out _ (P0_2.out.grow (bel_alloc ZC.out _)) (P1_2.out.grow (bel_alloc ZC.out _))) (fun hHeld => ?_)
          clear hK K
          try simp only [Act.put, List.setIfInBounds_toArray, List.set_cons_zero, List.set_cons_succ]
          refine wpAnyH_done (by kernel_rfl) ?_ _
          go_wp2_with fail
          go_meet
          exact ⟨_, OK, Od, OM, Of, Oc, Or, rfl, Blk.new _ _ _, OA.out.1.grow (Go.Joins.below_alloc1 wc _), OA.out.2, ZC.out.size, bel_alloc ZC.out _, fun k hk he => by have := (OA.out.1.rng k hk).2; omega⟩
        refine AllReadyH.cons (o := { dst := some 6, op := Op.alloc 27, type := 0, pos := "exact.go:4141", after := #[], guard := none }) rfl (fun K hK => ?_) AllReadyH.nil
        go_simp
        clear hHeld
        refine hK.out _ _ (HS.out _ (P0_2.out.grow (bel_alloc (ZB.out) _)) (P1_2.out.grow (bel_alloc (ZB.out) _))) (fun hHeld => ?_)
        clear hK K
        try simp only [Act.put, List.setIfInBounds_toArray, List.set_cons_zero, List.set_cons_succ]
        refine wpAnyH_ready (rs := [4]) (by kernel_rfl) (by simp) ?_
        refine AllReadyH.cons (o := { dst := some 28, op := Op.call { callee := Callee.value (Operand.func 20), args := #[Operand.tmp 25, Operand.tmp 27], argTypes := #[27, 29] }, type := 27, pos := "exact.go:4141", after := #[{ on := 1, ground := Ground.data }, { on := 3, ground := Ground.data }, { on := 3, ground := Ground.chain }], guard := none }) rfl (fun K hK => ?_) AllReadyH.nil
        go_simp
        refine (specJ n0 b0 t0 TK 0 _ key0 TM 0 _ l0 JL AM 0 _ (⟨l1, s1, e1, n1⟩ : PAl) HJ.out _ (TB.out.1.below (bel_alloc (Below.refl _ _) _)) K0.out.1 (TB.out.2.1.below (bel_alloc (Below.refl _ _) _)) K0.out.2.1 N0.out ⟨Nat.le_refl _, M0.out⟩ (TB.out.2.2.below (bel_alloc (Below.refl _ _) _)) K1.out).mono ?_
        rintro r wc ⟨⟨OK, Od, OM, Of, Oc, Or, rfl, hG, hP⟩, hy⟩
        have ZC : Hid (Below w2.heap.size w2 wc) := grow_on (bel_alloc (ZB.out) _) hy
        have ON : Hid (∀ k, gblks OK OM Or k → k ≠ wb.heap.size) := fun k hk he => by have h1 := (hG.rng k hk).1; simp at h1; omega
        have OA : Hid (GB w2.heap.size wc OK key0 OM Of Or ∧ pals Or = JL) := ⟨hG.down (bel_alloc (ZB.out) _).size, hP⟩
        have NBC : Hid (Blk wc wb.heap.size #[.int .i64 0, .slice none 0 0, .int .i64 0, .int .i64 0, .slice none 0 0] 27) := (Blk.new wb _ _).grow hy
        clear hG hP hy
        try dsimp only
        clear hHeld
        refine hK.out _ _ (HS.out _ (P0_2.out.grow (ZC.out)) (P1_2.out.grow (ZC.out))) (fun hHeld => ?_)
        clear hK K
        try simp only [Act.put, List.setIfInBounds_toArray, List.set_cons_zero, List.set_cons_succ]
        refine wpAnyH_ready (rs := [6]) (by kernel_rfl) (by simp) ?_
        refine AllReadyH.cons (o := { dst := none, op := Op.store 27 (Operand.tmp 6) (Operand.tmp 28), type := 0, pos := "exact.go:4141", after := #[{ on := 5, ground := Ground.data }, { on := 4, ground := Ground.data }, { on := 4, ground := Ground.chain }, { on := 0, ground := Ground.phase }, { on := 1, ground := Ground.phase }, { on := 2, ground := Ground.phase }, { on := 3, ground := Ground.phase }, { on := 4, ground := Ground.phase }, { on := 5, ground := Ground.phase }], guard := none }) rfl (fun K hK => ?_) AllReadyH.nil
        have n0' : wc.cell? ⟨wb.heap.size, 0, none⟩ = some (.int .i64 0) := NBC.out.cell 0
        have m0' := NBC.out.frozen 0
        have n1' : wc.cell? ⟨wb.heap.size, 1, none⟩ = some (.slice none 0 0) := NBC.out.cell 1
        have m1' := NBC.out.frozen 1
        have n2' : wc.cell? ⟨wb.heap.size, 2, none⟩ = some (.int .i64 0) := NBC.out.cell 2
        have m2' := NBC.out.frozen 2
        have n3' : wc.cell? ⟨wb.heap.size, 3, none⟩ = some (.int .i64 0) := NBC.out.cell 3
        have m3' := NBC.out.frozen 3
        have n4' : wc.cell? ⟨wb.heap.size, 4, none⟩ = some (.slice none 0 0) := NBC.out.cell 4
        have m4' := NBC.out.frozen 4
        go_simp
        clear n0' m0' n1' m1' n2' m2' n3' m3' n4' m4' hHeld
        have hz : Below w2.heap.size w2 (((((wc.setCell ⟨wb.heap.size, 0, none⟩ (.int .i64 n0)).setCell ⟨wb.heap.size, 1, none⟩ (.slice (some ⟨OK, 0, none⟩) key0.length Od)).setCell ⟨wb.heap.size, 2, none⟩ (.int .i64 b0)).setCell ⟨wb.heap.size, 3, none⟩ (.int .i64 t0)).setCell ⟨wb.heap.size, 4, none⟩ (.slice (some ⟨OM, Of, none⟩) Or.length Oc)) := set5 ZC.out (ZB.out.size) _ _ _ _ _
        refine hK.out _ _ (HS.out _ (P0_2.out.grow hz) (P1_2.out.grow hz)) (fun hHeld => ?_)
        clear hK K hz
        try simp only [Act.put, List.setIfInBounds_toArray, List.set_cons_zero, List.set_cons_succ]
        refine wpAnyH_done (by kernel_rfl) ?_ _
        go_wp2_with fail
        go_meet
        exact ⟨_, OK, Od, OM, Of, Oc, Or, rfl, put5 NBC.out _ _ _ _ _, gb_set5 OA.out.1 ON.out _ _ _ _ _, OA.out.2, ZB.out.size, set5 ZC.out (ZB.out.size) _ _ _ _ _, ON.out⟩
      refine AllReadyH.cons (o := { dst := some 6, op := Op.alloc 27, type := 0, pos := "exact.go:4141", after := #[], guard := none }) rfl (fun K hK => ?_) AllReadyH.nil
      go_simp
      clear hHeld
      refine hK.out _ _ (HS.out _ (P0_2.out.grow (bel_alloc (ZA.out) _)) (P1_2.out.grow (bel_alloc (ZA.out) _))) (fun hHeld => ?_)
      clear hK K
      try simp only [Act.put, List.setIfInBounds_toArray, List.set_cons_zero, List.set_cons_succ]
      refine wpAnyH_ready (rs := [3]) (by kernel_rfl) (by simp) ?_
      refine AllReadyH.cons (o := { dst := some 27, op := Op.call { callee := Callee.value (Operand.func 41), args := #[Operand.tmp 26], argTypes := #[72] }, type := 29, pos := "exact.go:4141", after := #[{ on := 2, ground := Ground.data }, { on := 1, ground := Ground.chain }], guard := none }) rfl (fun K hK => ?_) AllReadyH.nil
      go_simp
      refine (Alm.to_any a1 cap1 l1 s1 e1 n1 _ (R1.out.below (grow_on B2.out (bel_alloc (ZA.out) _))) K1.out).mono ?_
      rintro r wb ⟨⟨AM, Acs, rfl, -, hk, -, hh⟩, hy⟩
      have ZB : Hid (Below w2.heap.size w2 wb) := grow_on (bel_alloc (ZA.out) _) hy
      have TB : Hid (Reads wb (some ⟨TK, 0, none⟩) key0 ∧ RdN wb (some ⟨TM, 0, none⟩) l0 ∧ Reads wb (some ⟨AM, 0, none⟩) l1) := ⟨TA.out.1.below (grow_on (bel_alloc (Below.refl _ _) _) hy), TA.out.2.below (grow_on (bel_alloc (Below.refl _ _) _) hy), held_reads hk hh⟩
      have NBB : Hid (Blk wb wa.heap.size #[.int .i64 0, .slice none 0 0, .int .i64 0, .int .i64 0, .slice none 0 0] 27) := (Blk.new wa _ _).grow hy
      clear hk hh hy
      clear hHeld
      refine hK.out _ _ (HS.out _ (P0_2.out.grow (ZB.out)) (P1_2.out.grow (ZB.out))) (fun hHeld => ?_)
      clear hK K
      try simp only [Act.put, List.setIfInBounds_toArray, List.set_cons_zero, List.set_cons_succ]
      refine wpAnyH_ready (rs := [4]) (by kernel_rfl) (by simp) ?_
      refine AllReadyH.cons (o := { dst := some 28, op := Op.call { callee := Callee.value (Operand.func 20), args := #[Operand.tmp 25, Operand.tmp 27], argTypes := #[27, 29] }, type := 27, pos := "exact.go:4141", after := #[{ on := 1, ground := Ground.data }, { on := 3, ground := Ground.data }, { on := 3, ground := Ground.chain }], guard := none }) rfl (fun K hK => ?_) AllReadyH.nil
      go_simp
      refine (specJ n0 b0 t0 TK 0 _ key0 TM 0 _ l0 JL AM 0 _ (⟨l1, s1, e1, n1⟩ : PAl) HJ.out _ (TB.out.1.below (Below.refl _ _)) K0.out.1 (TB.out.2.1.below (Below.refl _ _)) K0.out.2.1 N0.out ⟨Nat.le_refl _, M0.out⟩ (TB.out.2.2.below (Below.refl _ _)) K1.out).mono ?_
      rintro r wc ⟨⟨OK, Od, OM, Of, Oc, Or, rfl, hG, hP⟩, hy⟩
      have ZC : Hid (Below w2.heap.size w2 wc) := grow_on (ZB.out) hy
      have ON : Hid (∀ k, gblks OK OM Or k → k ≠ wa.heap.size) := fun k hk he => by have h1 := (hG.rng k hk).1; have h2 := NBB.out.lt; omega
      have OA : Hid (GB w2.heap.size wc OK key0 OM Of Or ∧ pals Or = JL) := ⟨hG.down (ZB.out).size, hP⟩
      have NBC : Hid (Blk wc wa.heap.size #[.int .i64 0, .slice none 0 0, .int .i64 0, .int .i64 0, .slice none 0 0] 27) := NBB.out.grow hy
      clear hG hP hy
      try dsimp only
      clear hHeld
      refine hK.out _ _ (HS.out _ (P0_2.out.grow (ZC.out)) (P1_2.out.grow (ZC.out))) (fun hHeld => ?_)
      clear hK K
      try simp only [Act.put, List.setIfInBounds_toArray, List.set_cons_zero, List.set_cons_succ]
      refine wpAnyH_ready (rs := [6]) (by kernel_rfl) (by simp) ?_
      refine AllReadyH.cons (o := { dst := none, op := Op.store 27 (Operand.tmp 6) (Operand.tmp 28), type := 0, pos := "exact.go:4141", after := #[{ on := 5, ground := Ground.data }, { on := 4, ground := Ground.data }, { on := 4, ground := Ground.chain }, { on := 0, ground := Ground.phase }, { on := 1, ground := Ground.phase }, { on := 2, ground := Ground.phase }, { on := 3, ground := Ground.phase }, { on := 4, ground := Ground.phase }, { on := 5, ground := Ground.phase }], guard := none }) rfl (fun K hK => ?_) AllReadyH.nil
      have n0' : wc.cell? ⟨wa.heap.size, 0, none⟩ = some (.int .i64 0) := NBC.out.cell 0
      have m0' := NBC.out.frozen 0
      have n1' : wc.cell? ⟨wa.heap.size, 1, none⟩ = some (.slice none 0 0) := NBC.out.cell 1
      have m1' := NBC.out.frozen 1
      have n2' : wc.cell? ⟨wa.heap.size, 2, none⟩ = some (.int .i64 0) := NBC.out.cell 2
      have m2' := NBC.out.frozen 2
      have n3' : wc.cell? ⟨wa.heap.size, 3, none⟩ = some (.int .i64 0) := NBC.out.cell 3
      have m3' := NBC.out.frozen 3
      have n4' : wc.cell? ⟨wa.heap.size, 4, none⟩ = some (.slice none 0 0) := NBC.out.cell 4
      have m4' := NBC.out.frozen 4
      go_simp
      clear n0' m0' n1' m1' n2' m2' n3' m3' n4' m4' hHeld
      have hz : Below w2.heap.size w2 (((((wc.setCell ⟨wa.heap.size, 0, none⟩ (.int .i64 n0)).setCell ⟨wa.heap.size, 1, none⟩ (.slice (some ⟨OK, 0, none⟩) key0.length Od)).setCell ⟨wa.heap.size, 2, none⟩ (.int .i64 b0)).setCell ⟨wa.heap.size, 3, none⟩ (.int .i64 t0)).setCell ⟨wa.heap.size, 4, none⟩ (.slice (some ⟨OM, Of, none⟩) Or.length Oc)) := set5 ZC.out (ZA.out.size) _ _ _ _ _
      refine hK.out _ _ (HS.out _ (P0_2.out.grow hz) (P1_2.out.grow hz)) (fun hHeld => ?_)
      clear hK K hz
      try simp only [Act.put, List.setIfInBounds_toArray, List.set_cons_zero, List.set_cons_succ]
      refine wpAnyH_done (by kernel_rfl) ?_ _
      go_wp2_with fail
      go_meet
      exact ⟨_, OK, Od, OM, Of, Oc, Or, rfl, put5 NBC.out _ _ _ _ _, gb_set5 OA.out.1 ON.out _ _ _ _ _, OA.out.2, ZA.out.size, set5 ZC.out (ZA.out.size) _ _ _ _ _, ON.out⟩
    refine AllReadyH.cons (o := { dst := some 6, op := Op.alloc 27, type := 0, pos := "exact.go:4141", after := #[], guard := none }) rfl (fun K hK => ?_) AllReadyH.nil
    go_simp
    clear hHeld
    refine hK.out _ _ (HS.out _ (P0_2.out.grow (bel_alloc ((Below.refl w2.heap.size w2).drew) _)) (P1_2.out.grow (bel_alloc ((Below.refl w2.heap.size w2).drew) _))) (fun hHeld => ?_)
    clear hK K
    try simp only [Act.put, List.setIfInBounds_toArray, List.set_cons_zero, List.set_cons_succ]
    refine wpAnyH_ready (rs := [1]) (by kernel_rfl) (by simp) ?_
    refine AllReadyH.cons (o := { dst := some 25, op := Op.call { callee := Callee.value (Operand.func 33), args := #[Operand.tmp 24], argTypes := #[58] }, type := 27, pos := "exact.go:4141", after := #[{ on := 0, ground := Ground.data }], guard := none }) rfl (fun K hK => ?_) AllReadyH.nil
    go_simp
    refine (Grp.toGroup_any n0 b0 t0 ka0 kc0 key0 a0 cap0 l0 _ (U0.out.below (grow_on B2.out (bel_alloc ((Below.refl w2.heap.size w2).drew) _))) K0.out.1 (R0.out.below (grow_on B2.out (bel_alloc ((Below.refl w2.heap.size w2).drew) _))) K0.out.2.1 K0.out.2.2.1).mono ?_
    rintro r wa ⟨⟨TK, TM, Tr, rfl, hG, -, hP⟩, hy⟩
    have ZA : Hid (Below w2.heap.size w2 wa) := grow_on (bel_alloc ((Below.refl w2.heap.size w2).drew) _) hy
    have TA : Hid (Reads wa (some ⟨TK, 0, none⟩) key0 ∧ RdN wa (some ⟨TM, 0, none⟩) l0) := ⟨hG.key.rd, rdP hG hP⟩
    have NBA : Hid (Blk wa w2.heap.size #[.int .i64 0, .slice none 0 0, .int .i64 0, .int .i64 0, .slice none 0 0] 27) := (Blk.new w2.drew _ _).grow hy
    clear hG hP hy
    clear hHeld
    refine hK.out _ _ (HS.out _ (P0_2.out.grow (ZA.out)) (P1_2.out.grow (ZA.out))) (fun hHeld => ?_)
    clear hK K
    try simp only [Act.put, List.setIfInBounds_toArray, List.set_cons_zero, List.set_cons_succ]
    refine wpAnyH_ready (rs := [3]) (by kernel_rfl) (by simp) ?_
    refine AllReadyH.cons (o := { dst := some 27, op := Op.call { callee := Callee.value (Operand.func 41), args := #[Operand.tmp 26], argTypes := #[72] }, type := 29, pos := "exact.go:4141", after := #[{ on := 2, ground := Ground.data }, { on := 1, ground := Ground.chain }], guard := none }) rfl (fun K hK => ?_) AllReadyH.nil
    go_simp
    refine (Alm.to_any a1 cap1 l1 s1 e1 n1 _ (R1.out.below (grow_on B2.out (ZA.out))) K1.out).mono ?_
    rintro r wb ⟨⟨AM, Acs, rfl, -, hk, -, hh⟩, hy⟩
    have ZB : Hid (Below w2.heap.size w2 wb) := grow_on (ZA.out) hy
    have TB : Hid (Reads wb (some ⟨TK, 0, none⟩) key0 ∧ RdN wb (some ⟨TM, 0, none⟩) l0 ∧ Reads wb (some ⟨AM, 0, none⟩) l1) := ⟨TA.out.1.below (grow_on (Below.refl _ _) hy), TA.out.2.below (grow_on (Below.refl _ _) hy), held_reads hk hh⟩
    have NBB : Hid (Blk wb w2.heap.size #[.int .i64 0, .slice none 0 0, .int .i64 0, .int .i64 0, .slice none 0 0] 27) := NBA.out.grow hy
    clear hk hh hy
    clear hHeld
    refine hK.out _ _ (HS.out _ (P0_2.out.grow (ZB.out)) (P1_2.out.grow (ZB.out))) (fun hHeld => ?_)
    clear hK K
    try simp only [Act.put, List.setIfInBounds_toArray, List.set_cons_zero, List.set_cons_succ]
    refine wpAnyH_ready (rs := [4]) (by kernel_rfl) (by simp) ?_
    refine AllReadyH.cons (o := { dst := some 28, op := Op.call { callee := Callee.value (Operand.func 20), args := #[Operand.tmp 25, Operand.tmp 27], argTypes := #[27, 29] }, type := 27, pos := "exact.go:4141", after := #[{ on := 1, ground := Ground.data }, { on := 3, ground := Ground.data }, { on := 3, ground := Ground.chain }], guard := none }) rfl (fun K hK => ?_) AllReadyH.nil
    go_simp
    refine (specJ n0 b0 t0 TK 0 _ key0 TM 0 _ l0 JL AM 0 _ (⟨l1, s1, e1, n1⟩ : PAl) HJ.out _ (TB.out.1.below (Below.refl _ _)) K0.out.1 (TB.out.2.1.below (Below.refl _ _)) K0.out.2.1 N0.out ⟨Nat.le_refl _, M0.out⟩ (TB.out.2.2.below (Below.refl _ _)) K1.out).mono ?_
    rintro r wc ⟨⟨OK, Od, OM, Of, Oc, Or, rfl, hG, hP⟩, hy⟩
    have ZC : Hid (Below w2.heap.size w2 wc) := grow_on (ZB.out) hy
    have ON : Hid (∀ k, gblks OK OM Or k → k ≠ w2.heap.size) := fun k hk he => by have h1 := (hG.rng k hk).1; have h2 := NBB.out.lt; omega
    have OA : Hid (GB w2.heap.size wc OK key0 OM Of Or ∧ pals Or = JL) := ⟨hG.down (ZB.out).size, hP⟩
    have NBC : Hid (Blk wc w2.heap.size #[.int .i64 0, .slice none 0 0, .int .i64 0, .int .i64 0, .slice none 0 0] 27) := NBB.out.grow hy
    clear hG hP hy
    try dsimp only
    clear hHeld
    refine hK.out _ _ (HS.out _ (P0_2.out.grow (ZC.out)) (P1_2.out.grow (ZC.out))) (fun hHeld => ?_)
    clear hK K
    try simp only [Act.put, List.setIfInBounds_toArray, List.set_cons_zero, List.set_cons_succ]
    refine wpAnyH_ready (rs := [6]) (by kernel_rfl) (by simp) ?_
    refine AllReadyH.cons (o := { dst := none, op := Op.store 27 (Operand.tmp 6) (Operand.tmp 28), type := 0, pos := "exact.go:4141", after := #[{ on := 5, ground := Ground.data }, { on := 4, ground := Ground.data }, { on := 4, ground := Ground.chain }, { on := 0, ground := Ground.phase }, { on := 1, ground := Ground.phase }, { on := 2, ground := Ground.phase }, { on := 3, ground := Ground.phase }, { on := 4, ground := Ground.phase }, { on := 5, ground := Ground.phase }], guard := none }) rfl (fun K hK => ?_) AllReadyH.nil
    have n0' : wc.cell? ⟨w2.heap.size, 0, none⟩ = some (.int .i64 0) := NBC.out.cell 0
    have m0' := NBC.out.frozen 0
    have n1' : wc.cell? ⟨w2.heap.size, 1, none⟩ = some (.slice none 0 0) := NBC.out.cell 1
    have m1' := NBC.out.frozen 1
    have n2' : wc.cell? ⟨w2.heap.size, 2, none⟩ = some (.int .i64 0) := NBC.out.cell 2
    have m2' := NBC.out.frozen 2
    have n3' : wc.cell? ⟨w2.heap.size, 3, none⟩ = some (.int .i64 0) := NBC.out.cell 3
    have m3' := NBC.out.frozen 3
    have n4' : wc.cell? ⟨w2.heap.size, 4, none⟩ = some (.slice none 0 0) := NBC.out.cell 4
    have m4' := NBC.out.frozen 4
    go_simp
    clear n0' m0' n1' m1' n2' m2' n3' m3' n4' m4' hHeld
    have hz : Below w2.heap.size w2 (((((wc.setCell ⟨w2.heap.size, 0, none⟩ (.int .i64 n0)).setCell ⟨w2.heap.size, 1, none⟩ (.slice (some ⟨OK, 0, none⟩) key0.length Od)).setCell ⟨w2.heap.size, 2, none⟩ (.int .i64 b0)).setCell ⟨w2.heap.size, 3, none⟩ (.int .i64 t0)).setCell ⟨w2.heap.size, 4, none⟩ (.slice (some ⟨OM, Of, none⟩) Or.length Oc)) := set5 ZC.out (Nat.le_refl _) _ _ _ _ _
    refine hK.out _ _ (HS.out _ (P0_2.out.grow hz) (P1_2.out.grow hz)) (fun hHeld => ?_)
    clear hK K hz
    try simp only [Act.put, List.setIfInBounds_toArray, List.set_cons_zero, List.set_cons_succ]
    refine wpAnyH_done (by kernel_rfl) ?_ _
    go_wp2_with fail
    go_meet
    exact ⟨_, OK, Od, OM, Of, Oc, Or, rfl, put5 NBC.out _ _ _ _ _, gb_set5 OA.out.1 ON.out _ _ _ _ _, OA.out.2, Nat.le_refl _, set5 ZC.out (Nat.le_refl _) _ _ _ _ _, ON.out⟩
  case rest =>
  obtain ⟨WN, WK, Wd, WM, Wf, Wc, Wr, rfl, hW1, hG, hP, hN, hb, -⟩ := hcut
  obtain ⟨w3, hwc⟩ : ∃ x, x = wc := ⟨_, rfl⟩
  subst hwc
  have W0_3 : Hid (Blk w3 WN #[.int .i64 n0, .slice (some ⟨WK, 0, none⟩) key0.length Wd, .int .i64 b0, .int .i64 t0, .slice (some ⟨WM, Wf, none⟩) Wr.length Wc] 27) := hW1
  have W_3 : Hid (GB w2.heap.size w3 WK key0 WM Wf Wr) := hG
  have WP : Hid (pals Wr = JL) := hP
  have WR : Hid (∀ k, gblks WK WM Wr k → w2.heap.size ≤ k ∧ k < w3.heap.size) := hG.rng
  have U_W : Hid (w2.heap.size ≤ WN ∧ WN < w3.heap.size) := ⟨hN, hW1.lt⟩
  have B3 : Hid (Below w.heap.size w w3) := grow_on B2.out hb
  have Z3 : Hid (w2.heap.size ≤ w3.heap.size) := hb.size
  have P0_3 : Hid (Blk w3 w.heap.size #[.int .i64 n0, .slice ka0 key0.length kc0, .int .i64 b0, .int .i64 t0, .slice a0 l0.length cap0] 58) := P0_2.out.grow hb
  have P1_3 : Hid (Blk w3 (w.heap.size + 1) #[.slice a1 l1.length cap1, .int .i64 s1, .int .i64 e1, .string n1] 72) := P1_2.out.grow hb
  clear hb HS hW1 hG hP hN
  have cP00 : w3.cell? ⟨w.heap.size, 0, none⟩ = some (.int .i64 n0) := (P0_3.out).cell 0
  have cP01 : w3.cell? ⟨w.heap.size, 1, none⟩ = some (.slice ka0 key0.length kc0) := (P0_3.out).cell 1
  have cP02 : w3.cell? ⟨w.heap.size, 2, none⟩ = some (.int .i64 b0) := (P0_3.out).cell 2
  have cP03 : w3.cell? ⟨w.heap.size, 3, none⟩ = some (.int .i64 t0) := (P0_3.out).cell 3
  have cP04 : w3.cell? ⟨w.heap.size, 4, none⟩ = some (.slice a0 l0.length cap0) := (P0_3.out).cell 4
  have cP10 : w3.cell? ⟨(w.heap.size + 1), 0, none⟩ = some (.slice a1 l1.length cap1) := (P1_3.out).cell 0
  have cP11 : w3.cell? ⟨(w.heap.size + 1), 1, none⟩ = some (.int .i64 s1) := (P1_3.out).cell 1
  have cP12 : w3.cell? ⟨(w.heap.size + 1), 2, none⟩ = some (.int .i64 e1) := (P1_3.out).cell 2
  have cP13 : w3.cell? ⟨(w.heap.size + 1), 3, none⟩ = some (.string n1) := (P1_3.out).cell 3
  have cW00 : w3.cell? ⟨WN, 0, none⟩ = some (.int .i64 n0) := (W0_3.out).cell 0
  have cW01 : w3.cell? ⟨WN, 1, none⟩ = some (.slice (some ⟨WK, 0, none⟩) key0.length Wd) := (W0_3.out).cell 1
  have cW02 : w3.cell? ⟨WN, 2, none⟩ = some (.int .i64 b0) := (W0_3.out).cell 2
  have cW03 : w3.cell? ⟨WN, 3, none⟩ = some (.int .i64 t0) := (W0_3.out).cell 3
  have cW04 : w3.cell? ⟨WN, 4, none⟩ = some (.slice (some ⟨WM, Wf, none⟩) Wr.length Wc) := (W0_3.out).cell 4
  go_wp2_with fail
  refine (Grp.toGroup_any n0 b0 t0 ka0 kc0 key0 a0 cap0 l0 _ (U0.out.below B3.out) K0.out.1 (R0.out.below B3.out) K0.out.2.1 K0.out.2.2.1).mono ?_
  rintro e w4 ⟨⟨XK, XM, Xr, rfl, hG, hA, hP⟩, hb⟩
  have X_4 : Hid (GB w3.heap.size w4 XK key0 XM 0 Xr) := hG.down (by first | omega | (simp; omega))
  have XP : Hid (pals Xr = l0) := hP
  have XR : Hid (∀ k, gblks XK XM Xr k → w3.heap.size + 2 < k ∧ k < w4.heap.size) := fun k hk => by have := hG.rng k hk; (try simp at this); omega
  have XL : Hid (∀ x ∈ Xr, x.2.2.l.length ≤ 1048576) := hG.len
  clear hG hA hP
  have B4 : Hid (Below w.heap.size w w4) := grow_on B3.out hb
  have Z4 : Hid (w3.heap.size ≤ w4.heap.size) := hb.size
  have P0_4 : Hid (Blk w4 w.heap.size #[.int .i64 n0, .slice ka0 key0.length kc0, .int .i64 b0, .int .i64 t0, .slice a0 l0.length cap0] 58) := P0_3.out.grow hb
  have P1_4 : Hid (Blk w4 (w.heap.size + 1) #[.slice a1 l1.length cap1, .int .i64 s1, .int .i64 e1, .string n1] 72) := P1_3.out.grow hb
  have W0_4 : Hid (Blk w4 WN #[.int .i64 n0, .slice (some ⟨WK, 0, none⟩) key0.length Wd, .int .i64 b0, .int .i64 t0, .slice (some ⟨WM, Wf, none⟩) Wr.length Wc] 27) := W0_3.out.grow hb
  have W_4 : Hid (GB w2.heap.size w4 WK key0 WM Wf Wr) := W_3.out.grow hb
  clear hb cP00 cP01 cP02 cP03 cP04 cP10 cP11 cP12 cP13 cW00 cW01 cW02 cW03 cW04
  have cP00 : (w4.alloc (.cells #[.int .i64 n0, .slice (some ⟨XK, 0, none⟩) key0.length key0.length, .int .i64 b0, .int .i64 t0, .slice (some ⟨XM, 0, none⟩) l0.length l0.length] 27)).cell? ⟨w.heap.size, 0, none⟩ = some (.int .i64 n0) := ((P0_4.out.alloc _)).cell 0
  have cP01 : (w4.alloc (.cells #[.int .i64 n0, .slice (some ⟨XK, 0, none⟩) key0.length key0.length, .int .i64 b0, .int .i64 t0, .slice (some ⟨XM, 0, none⟩) l0.length l0.length] 27)).cell? ⟨w.heap.size, 1, none⟩ = some (.slice ka0 key0.length kc0) := ((P0_4.out.alloc _)).cell 1
  have cP02 : (w4.alloc (.cells #[.int .i64 n0, .slice (some ⟨XK, 0, none⟩) key0.length key0.length, .int .i64 b0, .int .i64 t0, .slice (some ⟨XM, 0, none⟩) l0.length l0.length] 27)).cell? ⟨w.heap.size, 2, none⟩ = some (.int .i64 b0) := ((P0_4.out.alloc _)).cell 2
  have cP03 : (w4.alloc (.cells #[.int .i64 n0, .slice (some ⟨XK, 0, none⟩) key0.length key0.length, .int .i64 b0, .int .i64 t0, .slice (some ⟨XM, 0, none⟩) l0.length l0.length] 27)).cell? ⟨w.heap.size, 3, none⟩ = some (.int .i64 t0) := ((P0_4.out.alloc _)).cell 3
  have cP04 : (w4.alloc (.cells #[.int .i64 n0, .slice (some ⟨XK, 0, none⟩) key0.length key0.length, .int .i64 b0, .int .i64 t0, .slice (some ⟨XM, 0, none⟩) l0.length l0.length] 27)).cell? ⟨w.heap.size, 4, none⟩ = some (.slice a0 l0.length cap0) := ((P0_4.out.alloc _)).cell 4
  have cP10 : (w4.alloc (.cells #[.int .i64 n0, .slice (some ⟨XK, 0, none⟩) key0.length key0.length, .int .i64 b0, .int .i64 t0, .slice (some ⟨XM, 0, none⟩) l0.length l0.length] 27)).cell? ⟨(w.heap.size + 1), 0, none⟩ = some (.slice a1 l1.length cap1) := ((P1_4.out.alloc _)).cell 0
  have cP11 : (w4.alloc (.cells #[.int .i64 n0, .slice (some ⟨XK, 0, none⟩) key0.length key0.length, .int .i64 b0, .int .i64 t0, .slice (some ⟨XM, 0, none⟩) l0.length l0.length] 27)).cell? ⟨(w.heap.size + 1), 1, none⟩ = some (.int .i64 s1) := ((P1_4.out.alloc _)).cell 1
  have cP12 : (w4.alloc (.cells #[.int .i64 n0, .slice (some ⟨XK, 0, none⟩) key0.length key0.length, .int .i64 b0, .int .i64 t0, .slice (some ⟨XM, 0, none⟩) l0.length l0.length] 27)).cell? ⟨(w.heap.size + 1), 2, none⟩ = some (.int .i64 e1) := ((P1_4.out.alloc _)).cell 2
  have cP13 : (w4.alloc (.cells #[.int .i64 n0, .slice (some ⟨XK, 0, none⟩) key0.length key0.length, .int .i64 b0, .int .i64 t0, .slice (some ⟨XM, 0, none⟩) l0.length l0.length] 27)).cell? ⟨(w.heap.size + 1), 3, none⟩ = some (.string n1) := ((P1_4.out.alloc _)).cell 3
  have cW00 : (w4.alloc (.cells #[.int .i64 n0, .slice (some ⟨XK, 0, none⟩) key0.length key0.length, .int .i64 b0, .int .i64 t0, .slice (some ⟨XM, 0, none⟩) l0.length l0.length] 27)).cell? ⟨WN, 0, none⟩ = some (.int .i64 n0) := ((W0_4.out.alloc _)).cell 0
  have cW01 : (w4.alloc (.cells #[.int .i64 n0, .slice (some ⟨XK, 0, none⟩) key0.length key0.length, .int .i64 b0, .int .i64 t0, .slice (some ⟨XM, 0, none⟩) l0.length l0.length] 27)).cell? ⟨WN, 1, none⟩ = some (.slice (some ⟨WK, 0, none⟩) key0.length Wd) := ((W0_4.out.alloc _)).cell 1
  have cW02 : (w4.alloc (.cells #[.int .i64 n0, .slice (some ⟨XK, 0, none⟩) key0.length key0.length, .int .i64 b0, .int .i64 t0, .slice (some ⟨XM, 0, none⟩) l0.length l0.length] 27)).cell? ⟨WN, 2, none⟩ = some (.int .i64 b0) := ((W0_4.out.alloc _)).cell 2
  have cW03 : (w4.alloc (.cells #[.int .i64 n0, .slice (some ⟨XK, 0, none⟩) key0.length key0.length, .int .i64 b0, .int .i64 t0, .slice (some ⟨XM, 0, none⟩) l0.length l0.length] 27)).cell? ⟨WN, 3, none⟩ = some (.int .i64 t0) := ((W0_4.out.alloc _)).cell 3
  have cW04 : (w4.alloc (.cells #[.int .i64 n0, .slice (some ⟨XK, 0, none⟩) key0.length key0.length, .int .i64 b0, .int .i64 t0, .slice (some ⟨XM, 0, none⟩) l0.length l0.length] 27)).cell? ⟨WN, 4, none⟩ = some (.slice (some ⟨WM, Wf, none⟩) Wr.length Wc) := ((W0_4.out.alloc _)).cell 4
  go_wp2_with fail
  refine (Alm.to_any a1 cap1 l1 s1 e1 n1 _ (R1.out.below (grow_on B4.out (Go.Joins.below_alloc1 w4 _))) K1.out).mono ?_
  rintro e w5 ⟨⟨YM, Ycs, rfl, hXM, hk, hs, hh⟩, hb⟩
  have Y_5 : Hid (Blk w5 YM Ycs 94) := hk
  have Ys : Hid (Ycs.size = l1.length * 2) := hs
  have Yh : Hid (LabT.Held Ycs l1 l1.length) := hh
  have U_Y : Hid (w4.heap.size ≤ YM ∧ YM < w5.heap.size) := ⟨Nat.le_trans (by simp) hXM, hk.lt⟩
  clear hk hs hh hXM
  have Q0_5 : Hid (Blk w5 w4.heap.size #[.int .i64 n0, .slice (some ⟨XK, 0, none⟩) key0.length key0.length, .int .i64 b0, .int .i64 t0, .slice (some ⟨XM, 0, none⟩) l0.length l0.length] 27) := (Blk.new _ _ _).grow hb
  have U_Q0 : Hid (w4.heap.size ≤ w4.heap.size ∧ w4.heap.size < w5.heap.size) := ⟨by omega, Q0_5.out.lt⟩
  replace hb := grow_on (Go.Joins.below_alloc1 w4 _) hb
  have B5 : Hid (Below w.heap.size w w5) := grow_on B4.out hb
  have Z5 : Hid (w4.heap.size ≤ w5.heap.size) := hb.size
  have P0_5 : Hid (Blk w5 w.heap.size #[.int .i64 n0, .slice ka0 key0.length kc0, .int .i64 b0, .int .i64 t0, .slice a0 l0.length cap0] 58) := P0_4.out.grow hb
  have P1_5 : Hid (Blk w5 (w.heap.size + 1) #[.slice a1 l1.length cap1, .int .i64 s1, .int .i64 e1, .string n1] 72) := P1_4.out.grow hb
  have W0_5 : Hid (Blk w5 WN #[.int .i64 n0, .slice (some ⟨WK, 0, none⟩) key0.length Wd, .int .i64 b0, .int .i64 t0, .slice (some ⟨WM, Wf, none⟩) Wr.length Wc] 27) := W0_4.out.grow hb
  have W_5 : Hid (GB w2.heap.size w5 WK key0 WM Wf Wr) := W_4.out.grow hb
  have X_5 : Hid (GB w3.heap.size w5 XK key0 XM 0 Xr) := X_4.out.grow hb
  clear hb cP00 cP01 cP02 cP03 cP04 cP10 cP11 cP12 cP13 cW00 cW01 cW02 cW03 cW04
  have cP00 : (w5.alloc (.cells #[.slice (some ⟨YM, 0, none⟩) l1.length l1.length, .int .i64 s1, .int .i64 e1, .string n1] 29)).cell? ⟨w.heap.size, 0, none⟩ = some (.int .i64 n0) := ((P0_5.out.alloc _)).cell 0
  have cP01 : (w5.alloc (.cells #[.slice (some ⟨YM, 0, none⟩) l1.length l1.length, .int .i64 s1, .int .i64 e1, .string n1] 29)).cell? ⟨w.heap.size, 1, none⟩ = some (.slice ka0 key0.length kc0) := ((P0_5.out.alloc _)).cell 1
  have cP02 : (w5.alloc (.cells #[.slice (some ⟨YM, 0, none⟩) l1.length l1.length, .int .i64 s1, .int .i64 e1, .string n1] 29)).cell? ⟨w.heap.size, 2, none⟩ = some (.int .i64 b0) := ((P0_5.out.alloc _)).cell 2
  have cP03 : (w5.alloc (.cells #[.slice (some ⟨YM, 0, none⟩) l1.length l1.length, .int .i64 s1, .int .i64 e1, .string n1] 29)).cell? ⟨w.heap.size, 3, none⟩ = some (.int .i64 t0) := ((P0_5.out.alloc _)).cell 3
  have cP04 : (w5.alloc (.cells #[.slice (some ⟨YM, 0, none⟩) l1.length l1.length, .int .i64 s1, .int .i64 e1, .string n1] 29)).cell? ⟨w.heap.size, 4, none⟩ = some (.slice a0 l0.length cap0) := ((P0_5.out.alloc _)).cell 4
  have cP10 : (w5.alloc (.cells #[.slice (some ⟨YM, 0, none⟩) l1.length l1.length, .int .i64 s1, .int .i64 e1, .string n1] 29)).cell? ⟨(w.heap.size + 1), 0, none⟩ = some (.slice a1 l1.length cap1) := ((P1_5.out.alloc _)).cell 0
  have cP11 : (w5.alloc (.cells #[.slice (some ⟨YM, 0, none⟩) l1.length l1.length, .int .i64 s1, .int .i64 e1, .string n1] 29)).cell? ⟨(w.heap.size + 1), 1, none⟩ = some (.int .i64 s1) := ((P1_5.out.alloc _)).cell 1
  have cP12 : (w5.alloc (.cells #[.slice (some ⟨YM, 0, none⟩) l1.length l1.length, .int .i64 s1, .int .i64 e1, .string n1] 29)).cell? ⟨(w.heap.size + 1), 2, none⟩ = some (.int .i64 e1) := ((P1_5.out.alloc _)).cell 2
  have cP13 : (w5.alloc (.cells #[.slice (some ⟨YM, 0, none⟩) l1.length l1.length, .int .i64 s1, .int .i64 e1, .string n1] 29)).cell? ⟨(w.heap.size + 1), 3, none⟩ = some (.string n1) := ((P1_5.out.alloc _)).cell 3
  have cW00 : (w5.alloc (.cells #[.slice (some ⟨YM, 0, none⟩) l1.length l1.length, .int .i64 s1, .int .i64 e1, .string n1] 29)).cell? ⟨WN, 0, none⟩ = some (.int .i64 n0) := ((W0_5.out.alloc _)).cell 0
  have cW01 : (w5.alloc (.cells #[.slice (some ⟨YM, 0, none⟩) l1.length l1.length, .int .i64 s1, .int .i64 e1, .string n1] 29)).cell? ⟨WN, 1, none⟩ = some (.slice (some ⟨WK, 0, none⟩) key0.length Wd) := ((W0_5.out.alloc _)).cell 1
  have cW02 : (w5.alloc (.cells #[.slice (some ⟨YM, 0, none⟩) l1.length l1.length, .int .i64 s1, .int .i64 e1, .string n1] 29)).cell? ⟨WN, 2, none⟩ = some (.int .i64 b0) := ((W0_5.out.alloc _)).cell 2
  have cW03 : (w5.alloc (.cells #[.slice (some ⟨YM, 0, none⟩) l1.length l1.length, .int .i64 s1, .int .i64 e1, .string n1] 29)).cell? ⟨WN, 3, none⟩ = some (.int .i64 t0) := ((W0_5.out.alloc _)).cell 3
  have cW04 : (w5.alloc (.cells #[.slice (some ⟨YM, 0, none⟩) l1.length l1.length, .int .i64 s1, .int .i64 e1, .string n1] 29)).cell? ⟨WN, 4, none⟩ = some (.slice (some ⟨WM, Wf, none⟩) Wr.length Wc) := ((W0_5.out.alloc _)).cell 4
  have cQ00 : (w5.alloc (.cells #[.slice (some ⟨YM, 0, none⟩) l1.length l1.length, .int .i64 s1, .int .i64 e1, .string n1] 29)).cell? ⟨w4.heap.size, 0, none⟩ = some (.int .i64 n0) := ((Q0_5.out.alloc _)).cell 0
  have cQ01 : (w5.alloc (.cells #[.slice (some ⟨YM, 0, none⟩) l1.length l1.length, .int .i64 s1, .int .i64 e1, .string n1] 29)).cell? ⟨w4.heap.size, 1, none⟩ = some (.slice (some ⟨XK, 0, none⟩) key0.length key0.length) := ((Q0_5.out.alloc _)).cell 1
  have cQ02 : (w5.alloc (.cells #[.slice (some ⟨YM, 0, none⟩) l1.length l1.length, .int .i64 s1, .int .i64 e1, .string n1] 29)).cell? ⟨w4.heap.size, 2, none⟩ = some (.int .i64 b0) := ((Q0_5.out.alloc _)).cell 2
  have cQ03 : (w5.alloc (.cells #[.slice (some ⟨YM, 0, none⟩) l1.length l1.length, .int .i64 s1, .int .i64 e1, .string n1] 29)).cell? ⟨w4.heap.size, 3, none⟩ = some (.int .i64 t0) := ((Q0_5.out.alloc _)).cell 3
  have cQ04 : (w5.alloc (.cells #[.slice (some ⟨YM, 0, none⟩) l1.length l1.length, .int .i64 s1, .int .i64 e1, .string n1] 29)).cell? ⟨w4.heap.size, 4, none⟩ = some (.slice (some ⟨XM, 0, none⟩) l0.length l0.length) := ((Q0_5.out.alloc _)).cell 4
  go_wp2_with fail
  refine (implJ n0 b0 t0 XK 0 _ key0 XM 0 _ l0 JL YM 0 _ (⟨l1, s1, e1, n1⟩ : PAl) HJ.out _ (X_5.out.key.rd.below (Go.Joins.below_alloc1 w5 _)) K0.out.1 ((rdP X_5.out XP.out).below (Go.Joins.below_alloc1 w5 _)) K0.out.2.1 N0.out ⟨Nat.le_refl _, M0.out⟩ ((held_reads Y_5.out Yh.out).below (Go.Joins.below_alloc1 w5 _)) K1.out).mono ?_
  rintro e w6 ⟨⟨GK, Gd, GM, Gf, Gc, Gr, rfl, hG, hP⟩, hb⟩
  have G_6 : Hid (GB w5.heap.size w6 GK key0 GM Gf Gr) := hG.down (by simp)
  have GP : Hid (pals Gr = JL) := hP
  have GR : Hid (∀ k, gblks GK GM Gr k → w5.heap.size < k ∧ k < w6.heap.size) := fun k hk => by have := hG.rng k hk; simp at this; omega
  have GL : Hid (∀ x ∈ Gr, x.2.2.l.length ≤ 1048576) := hG.len
  clear hG hP
  have Q1_6 : Hid (Blk w6 w5.heap.size #[.slice (some ⟨YM, 0, none⟩) l1.length l1.length, .int .i64 s1, .int .i64 e1, .string n1] 29) := (Blk.new _ _ _).grow hb
  have U_Q1 : Hid (w5.heap.size ≤ w5.heap.size ∧ w5.heap.size < w6.heap.size) := ⟨by omega, Q1_6.out.lt⟩
  replace hb := grow_on (Go.Joins.below_alloc1 w5 _) hb
  have B6 : Hid (Below w.heap.size w w6) := grow_on B5.out hb
  have Z6 : Hid (w5.heap.size ≤ w6.heap.size) := hb.size
  have P0_6 : Hid (Blk w6 w.heap.size #[.int .i64 n0, .slice ka0 key0.length kc0, .int .i64 b0, .int .i64 t0, .slice a0 l0.length cap0] 58) := P0_5.out.grow hb
  have P1_6 : Hid (Blk w6 (w.heap.size + 1) #[.slice a1 l1.length cap1, .int .i64 s1, .int .i64 e1, .string n1] 72) := P1_5.out.grow hb
  have W0_6 : Hid (Blk w6 WN #[.int .i64 n0, .slice (some ⟨WK, 0, none⟩) key0.length Wd, .int .i64 b0, .int .i64 t0, .slice (some ⟨WM, Wf, none⟩) Wr.length Wc] 27) := W0_5.out.grow hb
  have W_6 : Hid (GB w2.heap.size w6 WK key0 WM Wf Wr) := W_5.out.grow hb
  have X_6 : Hid (GB w3.heap.size w6 XK key0 XM 0 Xr) := X_5.out.grow hb
  have Q0_6 : Hid (Blk w6 w4.heap.size #[.int .i64 n0, .slice (some ⟨XK, 0, none⟩) key0.length key0.length, .int .i64 b0, .int .i64 t0, .slice (some ⟨XM, 0, none⟩) l0.length l0.length] 27) := Q0_5.out.grow hb
  have Y_6 : Hid (Blk w6 YM Ycs 94) := Y_5.out.grow hb
  clear hb cP00 cP01 cP02 cP03 cP04 cP10 cP11 cP12 cP13 cW00 cW01 cW02 cW03 cW04 cQ00 cQ01 cQ02 cQ03 cQ04
  have cP00 : (w6.alloc (.cells #[.int .i64 n0, .slice (some ⟨GK, 0, none⟩) key0.length Gd, .int .i64 b0, .int .i64 t0, .slice (some ⟨GM, Gf, none⟩) Gr.length Gc] 27)).cell? ⟨w.heap.size, 0, none⟩ = some (.int .i64 n0) := ((P0_6.out.alloc _)).cell 0
  have cP01 : (w6.alloc (.cells #[.int .i64 n0, .slice (some ⟨GK, 0, none⟩) key0.length Gd, .int .i64 b0, .int .i64 t0, .slice (some ⟨GM, Gf, none⟩) Gr.length Gc] 27)).cell? ⟨w.heap.size, 1, none⟩ = some (.slice ka0 key0.length kc0) := ((P0_6.out.alloc _)).cell 1
  have cP02 : (w6.alloc (.cells #[.int .i64 n0, .slice (some ⟨GK, 0, none⟩) key0.length Gd, .int .i64 b0, .int .i64 t0, .slice (some ⟨GM, Gf, none⟩) Gr.length Gc] 27)).cell? ⟨w.heap.size, 2, none⟩ = some (.int .i64 b0) := ((P0_6.out.alloc _)).cell 2
  have cP03 : (w6.alloc (.cells #[.int .i64 n0, .slice (some ⟨GK, 0, none⟩) key0.length Gd, .int .i64 b0, .int .i64 t0, .slice (some ⟨GM, Gf, none⟩) Gr.length Gc] 27)).cell? ⟨w.heap.size, 3, none⟩ = some (.int .i64 t0) := ((P0_6.out.alloc _)).cell 3
  have cP04 : (w6.alloc (.cells #[.int .i64 n0, .slice (some ⟨GK, 0, none⟩) key0.length Gd, .int .i64 b0, .int .i64 t0, .slice (some ⟨GM, Gf, none⟩) Gr.length Gc] 27)).cell? ⟨w.heap.size, 4, none⟩ = some (.slice a0 l0.length cap0) := ((P0_6.out.alloc _)).cell 4
  have cP10 : (w6.alloc (.cells #[.int .i64 n0, .slice (some ⟨GK, 0, none⟩) key0.length Gd, .int .i64 b0, .int .i64 t0, .slice (some ⟨GM, Gf, none⟩) Gr.length Gc] 27)).cell? ⟨(w.heap.size + 1), 0, none⟩ = some (.slice a1 l1.length cap1) := ((P1_6.out.alloc _)).cell 0
  have cP11 : (w6.alloc (.cells #[.int .i64 n0, .slice (some ⟨GK, 0, none⟩) key0.length Gd, .int .i64 b0, .int .i64 t0, .slice (some ⟨GM, Gf, none⟩) Gr.length Gc] 27)).cell? ⟨(w.heap.size + 1), 1, none⟩ = some (.int .i64 s1) := ((P1_6.out.alloc _)).cell 1
  have cP12 : (w6.alloc (.cells #[.int .i64 n0, .slice (some ⟨GK, 0, none⟩) key0.length Gd, .int .i64 b0, .int .i64 t0, .slice (some ⟨GM, Gf, none⟩) Gr.length Gc] 27)).cell? ⟨(w.heap.size + 1), 2, none⟩ = some (.int .i64 e1) := ((P1_6.out.alloc _)).cell 2
  have cP13 : (w6.alloc (.cells #[.int .i64 n0, .slice (some ⟨GK, 0, none⟩) key0.length Gd, .int .i64 b0, .int .i64 t0, .slice (some ⟨GM, Gf, none⟩) Gr.length Gc] 27)).cell? ⟨(w.heap.size + 1), 3, none⟩ = some (.string n1) := ((P1_6.out.alloc _)).cell 3
  have cW00 : (w6.alloc (.cells #[.int .i64 n0, .slice (some ⟨GK, 0, none⟩) key0.length Gd, .int .i64 b0, .int .i64 t0, .slice (some ⟨GM, Gf, none⟩) Gr.length Gc] 27)).cell? ⟨WN, 0, none⟩ = some (.int .i64 n0) := ((W0_6.out.alloc _)).cell 0
  have cW01 : (w6.alloc (.cells #[.int .i64 n0, .slice (some ⟨GK, 0, none⟩) key0.length Gd, .int .i64 b0, .int .i64 t0, .slice (some ⟨GM, Gf, none⟩) Gr.length Gc] 27)).cell? ⟨WN, 1, none⟩ = some (.slice (some ⟨WK, 0, none⟩) key0.length Wd) := ((W0_6.out.alloc _)).cell 1
  have cW02 : (w6.alloc (.cells #[.int .i64 n0, .slice (some ⟨GK, 0, none⟩) key0.length Gd, .int .i64 b0, .int .i64 t0, .slice (some ⟨GM, Gf, none⟩) Gr.length Gc] 27)).cell? ⟨WN, 2, none⟩ = some (.int .i64 b0) := ((W0_6.out.alloc _)).cell 2
  have cW03 : (w6.alloc (.cells #[.int .i64 n0, .slice (some ⟨GK, 0, none⟩) key0.length Gd, .int .i64 b0, .int .i64 t0, .slice (some ⟨GM, Gf, none⟩) Gr.length Gc] 27)).cell? ⟨WN, 3, none⟩ = some (.int .i64 t0) := ((W0_6.out.alloc _)).cell 3
  have cW04 : (w6.alloc (.cells #[.int .i64 n0, .slice (some ⟨GK, 0, none⟩) key0.length Gd, .int .i64 b0, .int .i64 t0, .slice (some ⟨GM, Gf, none⟩) Gr.length Gc] 27)).cell? ⟨WN, 4, none⟩ = some (.slice (some ⟨WM, Wf, none⟩) Wr.length Wc) := ((W0_6.out.alloc _)).cell 4
  have cQ00 : (w6.alloc (.cells #[.int .i64 n0, .slice (some ⟨GK, 0, none⟩) key0.length Gd, .int .i64 b0, .int .i64 t0, .slice (some ⟨GM, Gf, none⟩) Gr.length Gc] 27)).cell? ⟨w4.heap.size, 0, none⟩ = some (.int .i64 n0) := ((Q0_6.out.alloc _)).cell 0
  have cQ01 : (w6.alloc (.cells #[.int .i64 n0, .slice (some ⟨GK, 0, none⟩) key0.length Gd, .int .i64 b0, .int .i64 t0, .slice (some ⟨GM, Gf, none⟩) Gr.length Gc] 27)).cell? ⟨w4.heap.size, 1, none⟩ = some (.slice (some ⟨XK, 0, none⟩) key0.length key0.length) := ((Q0_6.out.alloc _)).cell 1
  have cQ02 : (w6.alloc (.cells #[.int .i64 n0, .slice (some ⟨GK, 0, none⟩) key0.length Gd, .int .i64 b0, .int .i64 t0, .slice (some ⟨GM, Gf, none⟩) Gr.length Gc] 27)).cell? ⟨w4.heap.size, 2, none⟩ = some (.int .i64 b0) := ((Q0_6.out.alloc _)).cell 2
  have cQ03 : (w6.alloc (.cells #[.int .i64 n0, .slice (some ⟨GK, 0, none⟩) key0.length Gd, .int .i64 b0, .int .i64 t0, .slice (some ⟨GM, Gf, none⟩) Gr.length Gc] 27)).cell? ⟨w4.heap.size, 3, none⟩ = some (.int .i64 t0) := ((Q0_6.out.alloc _)).cell 3
  have cQ04 : (w6.alloc (.cells #[.int .i64 n0, .slice (some ⟨GK, 0, none⟩) key0.length Gd, .int .i64 b0, .int .i64 t0, .slice (some ⟨GM, Gf, none⟩) Gr.length Gc] 27)).cell? ⟨w4.heap.size, 4, none⟩ = some (.slice (some ⟨XM, 0, none⟩) l0.length l0.length) := ((Q0_6.out.alloc _)).cell 4
  have cQ10 : (w6.alloc (.cells #[.int .i64 n0, .slice (some ⟨GK, 0, none⟩) key0.length Gd, .int .i64 b0, .int .i64 t0, .slice (some ⟨GM, Gf, none⟩) Gr.length Gc] 27)).cell? ⟨w5.heap.size, 0, none⟩ = some (.slice (some ⟨YM, 0, none⟩) l1.length l1.length) := ((Q1_6.out.alloc _)).cell 0
  have cQ11 : (w6.alloc (.cells #[.int .i64 n0, .slice (some ⟨GK, 0, none⟩) key0.length Gd, .int .i64 b0, .int .i64 t0, .slice (some ⟨GM, Gf, none⟩) Gr.length Gc] 27)).cell? ⟨w5.heap.size, 1, none⟩ = some (.int .i64 s1) := ((Q1_6.out.alloc _)).cell 1
  have cQ12 : (w6.alloc (.cells #[.int .i64 n0, .slice (some ⟨GK, 0, none⟩) key0.length Gd, .int .i64 b0, .int .i64 t0, .slice (some ⟨GM, Gf, none⟩) Gr.length Gc] 27)).cell? ⟨w5.heap.size, 2, none⟩ = some (.int .i64 e1) := ((Q1_6.out.alloc _)).cell 2
  have cQ13 : (w6.alloc (.cells #[.int .i64 n0, .slice (some ⟨GK, 0, none⟩) key0.length Gd, .int .i64 b0, .int .i64 t0, .slice (some ⟨GM, Gf, none⟩) Gr.length Gc] 27)).cell? ⟨w5.heap.size, 3, none⟩ = some (.string n1) := ((Q1_6.out.alloc _)).cell 3
  go_wp2_with fail
  refine (eqG_any n0 b0 t0 _ _ _ _ key0 _ _ _ _ Gr Wr JL _ (G_6.out.key.rd.below (Go.Joins.below_alloc1 w6 _)) (W_6.out.key.rd.below (Go.Joins.below_alloc1 w6 _)) Q0k.out.1 (G_6.out.row.rd.below (Go.Joins.below_alloc1 w6 _)) (W_6.out.row.rd.below (Go.Joins.below_alloc1 w6 _)) GP.out WP.out PF.out.1 PF.out.2).mono ?_
  rintro e w7 ⟨rfl, hb⟩
  have G0_7 : Hid (Blk w7 w6.heap.size #[.int .i64 n0, .slice (some ⟨GK, 0, none⟩) key0.length Gd, .int .i64 b0, .int .i64 t0, .slice (some ⟨GM, Gf, none⟩) Gr.length Gc] 27) := (Blk.new _ _ _).grow hb
  have U_G0 : Hid (w6.heap.size ≤ w6.heap.size ∧ w6.heap.size < w7.heap.size) := ⟨by omega, G0_7.out.lt⟩
  replace hb := grow_on (Go.Joins.below_alloc1 w6 _) hb
  have B7 : Hid (Below w.heap.size w w7) := grow_on B6.out hb
  have Z7 : Hid (w6.heap.size ≤ w7.heap.size) := hb.size
  have P0_7 : Hid (Blk w7 w.heap.size #[.int .i64 n0, .slice ka0 key0.length kc0, .int .i64 b0, .int .i64 t0, .slice a0 l0.length cap0] 58) := P0_6.out.grow hb
  have P1_7 : Hid (Blk w7 (w.heap.size + 1) #[.slice a1 l1.length cap1, .int .i64 s1, .int .i64 e1, .string n1] 72) := P1_6.out.grow hb
  have W0_7 : Hid (Blk w7 WN #[.int .i64 n0, .slice (some ⟨WK, 0, none⟩) key0.length Wd, .int .i64 b0, .int .i64 t0, .slice (some ⟨WM, Wf, none⟩) Wr.length Wc] 27) := W0_6.out.grow hb
  have W_7 : Hid (GB w2.heap.size w7 WK key0 WM Wf Wr) := W_6.out.grow hb
  have X_7 : Hid (GB w3.heap.size w7 XK key0 XM 0 Xr) := X_6.out.grow hb
  have Q0_7 : Hid (Blk w7 w4.heap.size #[.int .i64 n0, .slice (some ⟨XK, 0, none⟩) key0.length key0.length, .int .i64 b0, .int .i64 t0, .slice (some ⟨XM, 0, none⟩) l0.length l0.length] 27) := Q0_6.out.grow hb
  have Y_7 : Hid (Blk w7 YM Ycs 94) := Y_6.out.grow hb
  have Q1_7 : Hid (Blk w7 w5.heap.size #[.slice (some ⟨YM, 0, none⟩) l1.length l1.length, .int .i64 s1, .int .i64 e1, .string n1] 29) := Q1_6.out.grow hb
  have G_7 : Hid (GB w5.heap.size w7 GK key0 GM Gf Gr) := G_6.out.grow hb
  clear hb cP00 cP01 cP02 cP03 cP04 cP10 cP11 cP12 cP13 cW00 cW01 cW02 cW03 cW04 cQ00 cQ01 cQ02 cQ03 cQ04 cQ10 cQ11 cQ12 cQ13
  have cP00 : w7.cell? ⟨w.heap.size, 0, none⟩ = some (.int .i64 n0) := (P0_7.out).cell 0
  have cP01 : w7.cell? ⟨w.heap.size, 1, none⟩ = some (.slice ka0 key0.length kc0) := (P0_7.out).cell 1
  have cP02 : w7.cell? ⟨w.heap.size, 2, none⟩ = some (.int .i64 b0) := (P0_7.out).cell 2
  have cP03 : w7.cell? ⟨w.heap.size, 3, none⟩ = some (.int .i64 t0) := (P0_7.out).cell 3
  have cP04 : w7.cell? ⟨w.heap.size, 4, none⟩ = some (.slice a0 l0.length cap0) := (P0_7.out).cell 4
  have cQ00 : w7.cell? ⟨w4.heap.size, 0, none⟩ = some (.int .i64 n0) := (Q0_7.out).cell 0
  have cQ01 : w7.cell? ⟨w4.heap.size, 1, none⟩ = some (.slice (some ⟨XK, 0, none⟩) key0.length key0.length) := (Q0_7.out).cell 1
  have cQ02 : w7.cell? ⟨w4.heap.size, 2, none⟩ = some (.int .i64 b0) := (Q0_7.out).cell 2
  have cQ03 : w7.cell? ⟨w4.heap.size, 3, none⟩ = some (.int .i64 t0) := (Q0_7.out).cell 3
  have cQ04 : w7.cell? ⟨w4.heap.size, 4, none⟩ = some (.slice (some ⟨XM, 0, none⟩) l0.length l0.length) := (Q0_7.out).cell 4
  go_wp2
  have kz : Below w7.heap.size w7 w7.drew := (Below.refl _ _).drew
  have kP0 := P0_7.out.lt
  have kQ0 := Q0_7.out.lt
  have HS : Hid (∀ w', Below w7.heap.size w7 w' → Below w7.heap.size w7 w' ∧ w'.cell? ⟨w.heap.size, 0, none⟩ = some (.int .i64 n0) ∧ w'.cell? ⟨w.heap.size, 1, none⟩ = some (.slice ka0 key0.length kc0) ∧ w'.cell? ⟨w.heap.size, 2, none⟩ = some (.int .i64 b0) ∧ w'.cell? ⟨w.heap.size, 3, none⟩ = some (.int .i64 t0) ∧ w'.cell? ⟨w.heap.size, 4, none⟩ = some (.slice a0 l0.length cap0) ∧ w'.cell? ⟨w4.heap.size, 0, none⟩ = some (.int .i64 n0) ∧ w'.cell? ⟨w4.heap.size, 1, none⟩ = some (.slice (some ⟨XK, 0, none⟩) key0.length key0.length) ∧ w'.cell? ⟨w4.heap.size, 2, none⟩ = some (.int .i64 b0) ∧ w'.cell? ⟨w4.heap.size, 3, none⟩ = some (.int .i64 t0) ∧ w'.cell? ⟨w4.heap.size, 4, none⟩ = some (.slice (some ⟨XM, 0, none⟩) l0.length l0.length)) := fun w' h => ⟨h, (h.cell kP0).trans cP00, (h.cell kP0).trans cP01, (h.cell kP0).trans cP02, (h.cell kP0).trans cP03, (h.cell kP0).trans cP04, (h.cell kQ0).trans cQ00, (h.cell kQ0).trans cQ01, (h.cell kQ0).trans cQ02, (h.cell kQ0).trans cQ03, (h.cell kQ0).trans cQ04⟩
  go_region_held3 (fun w' => Below w7.heap.size w7 w' ∧ w'.cell? ⟨w.heap.size, 0, none⟩ = some (.int .i64 n0) ∧ w'.cell? ⟨w.heap.size, 1, none⟩ = some (.slice ka0 key0.length kc0) ∧ w'.cell? ⟨w.heap.size, 2, none⟩ = some (.int .i64 b0) ∧ w'.cell? ⟨w.heap.size, 3, none⟩ = some (.int .i64 t0) ∧ w'.cell? ⟨w.heap.size, 4, none⟩ = some (.slice a0 l0.length cap0) ∧ w'.cell? ⟨w4.heap.size, 0, none⟩ = some (.int .i64 n0) ∧ w'.cell? ⟨w4.heap.size, 1, none⟩ = some (.slice (some ⟨XK, 0, none⟩) key0.length key0.length) ∧ w'.cell? ⟨w4.heap.size, 2, none⟩ = some (.int .i64 b0) ∧ w'.cell? ⟨w4.heap.size, 3, none⟩ = some (.int .i64 t0) ∧ w'.cell? ⟨w4.heap.size, 4, none⟩ = some (.slice (some ⟨XM, 0, none⟩) l0.length l0.length)) (first | with_reducible exact HS.out _ kz | with_reducible exact HS.out _ (grow_on kz hy0) | with_reducible exact HS.out _ (grow_on (grow_on kz hy0) hy1) | (go_keep; done)) (first | (go_at_call 33; with_reducible refine (Grp.toGroup_any n0 b0 t0 ka0 kc0 key0 a0 cap0 l0 _ (U0.out.below (grow_on B7.out kz)) K0.out.1 (R0.out.below (grow_on B7.out kz)) K0.out.2.1 K0.out.2.2.1).mono ?_; rintro e wy ⟨⟨EK, EM, Er, rfl, hG, hA, hP⟩, hy0⟩) | (go_at_call 35; refine (Grp.eqGroup_any n0 b0 t0 _ _ _ _ key0 _ _ _ _ l0 _ ((X_7.out.key.rd).below (grow_on kz hy0)) hG.key.rd Q0k.out.1 ((rdP X_7.out XP.out).rd.below (grow_on kz hy0)) (rdP hG hP).rd M0.out F0.out).mono ?_; rintro e w8 ⟨rfl, hy1⟩))
  have hb := (grow_on (grow_on kz hy0) hy1)
  have B8 : Hid (Below w.heap.size w w8) := grow_on B7.out hb
  have Z8 : Hid (w7.heap.size ≤ w8.heap.size) := hb.size
  have P0_8 : Hid (Blk w8 w.heap.size #[.int .i64 n0, .slice ka0 key0.length kc0, .int .i64 b0, .int .i64 t0, .slice a0 l0.length cap0] 58) := P0_7.out.grow hb
  have P1_8 : Hid (Blk w8 (w.heap.size + 1) #[.slice a1 l1.length cap1, .int .i64 s1, .int .i64 e1, .string n1] 72) := P1_7.out.grow hb
  have W0_8 : Hid (Blk w8 WN #[.int .i64 n0, .slice (some ⟨WK, 0, none⟩) key0.length Wd, .int .i64 b0, .int .i64 t0, .slice (some ⟨WM, Wf, none⟩) Wr.length Wc] 27) := W0_7.out.grow hb
  have W_8 : Hid (GB w2.heap.size w8 WK key0 WM Wf Wr) := W_7.out.grow hb
  have X_8 : Hid (GB w3.heap.size w8 XK key0 XM 0 Xr) := X_7.out.grow hb
  have Q0_8 : Hid (Blk w8 w4.heap.size #[.int .i64 n0, .slice (some ⟨XK, 0, none⟩) key0.length key0.length, .int .i64 b0, .int .i64 t0, .slice (some ⟨XM, 0, none⟩) l0.length l0.length] 27) := Q0_7.out.grow hb
  have Y_8 : Hid (Blk w8 YM Ycs 94) := Y_7.out.grow hb
  have Q1_8 : Hid (Blk w8 w5.heap.size #[.slice (some ⟨YM, 0, none⟩) l1.length l1.length, .int .i64 s1, .int .i64 e1, .string n1] 29) := Q1_7.out.grow hb
  have G_8 : Hid (GB w5.heap.size w8 GK key0 GM Gf Gr) := G_7.out.grow hb
  have G0_8 : Hid (Blk w8 w6.heap.size #[.int .i64 n0, .slice (some ⟨GK, 0, none⟩) key0.length Gd, .int .i64 b0, .int .i64 t0, .slice (some ⟨GM, Gf, none⟩) Gr.length Gc] 27) := G0_7.out.grow hb
  clear hb kz HS hy0 hy1 kP0 kQ0 cP00 cP01 cP02 cP03 cP04 cQ00 cQ01 cQ02 cQ03 cQ04 hG hA hP
  have eA : Alm.sameB l1 s1 e1 n1 l1 s1 e1 n1 = true := Alm.same_self _ _ _ _
  have cP10 : w8.cell? ⟨(w.heap.size + 1), 0, none⟩ = some (.slice a1 l1.length cap1) := (P1_8.out).cell 0
  have cP11 : w8.cell? ⟨(w.heap.size + 1), 1, none⟩ = some (.int .i64 s1) := (P1_8.out).cell 1
  have cP12 : w8.cell? ⟨(w.heap.size + 1), 2, none⟩ = some (.int .i64 e1) := (P1_8.out).cell 2
  have cP13 : w8.cell? ⟨(w.heap.size + 1), 3, none⟩ = some (.string n1) := (P1_8.out).cell 3
  have cQ10 : w8.cell? ⟨w5.heap.size, 0, none⟩ = some (.slice (some ⟨YM, 0, none⟩) l1.length l1.length) := (Q1_8.out).cell 0
  have cQ11 : w8.cell? ⟨w5.heap.size, 1, none⟩ = some (.int .i64 s1) := (Q1_8.out).cell 1
  have cQ12 : w8.cell? ⟨w5.heap.size, 2, none⟩ = some (.int .i64 e1) := (Q1_8.out).cell 2
  have cQ13 : w8.cell? ⟨w5.heap.size, 3, none⟩ = some (.string n1) := (Q1_8.out).cell 3
  go_wp2
  have kz : Below w8.heap.size w8 w8.drew := (Below.refl _ _).drew
  have kP1 := P1_8.out.lt
  have kQ1 := Q1_8.out.lt
  have HS : Hid (∀ w', Below w8.heap.size w8 w' → Below w8.heap.size w8 w' ∧ w'.cell? ⟨(w.heap.size + 1), 0, none⟩ = some (.slice a1 l1.length cap1) ∧ w'.cell? ⟨(w.heap.size + 1), 1, none⟩ = some (.int .i64 s1) ∧ w'.cell? ⟨(w.heap.size + 1), 2, none⟩ = some (.int .i64 e1) ∧ w'.cell? ⟨(w.heap.size + 1), 3, none⟩ = some (.string n1) ∧ w'.cell? ⟨w5.heap.size, 0, none⟩ = some (.slice (some ⟨YM, 0, none⟩) l1.length l1.length) ∧ w'.cell? ⟨w5.heap.size, 1, none⟩ = some (.int .i64 s1) ∧ w'.cell? ⟨w5.heap.size, 2, none⟩ = some (.int .i64 e1) ∧ w'.cell? ⟨w5.heap.size, 3, none⟩ = some (.string n1)) := fun w' h => ⟨h, (h.cell kP1).trans cP10, (h.cell kP1).trans cP11, (h.cell kP1).trans cP12, (h.cell kP1).trans cP13, (h.cell kQ1).trans cQ10, (h.cell kQ1).trans cQ11, (h.cell kQ1).trans cQ12, (h.cell kQ1).trans cQ13⟩
  go_region_held3 (fun w' => Below w8.heap.size w8 w' ∧ w'.cell? ⟨(w.heap.size + 1), 0, none⟩ = some (.slice a1 l1.length cap1) ∧ w'.cell? ⟨(w.heap.size + 1), 1, none⟩ = some (.int .i64 s1) ∧ w'.cell? ⟨(w.heap.size + 1), 2, none⟩ = some (.int .i64 e1) ∧ w'.cell? ⟨(w.heap.size + 1), 3, none⟩ = some (.string n1) ∧ w'.cell? ⟨w5.heap.size, 0, none⟩ = some (.slice (some ⟨YM, 0, none⟩) l1.length l1.length) ∧ w'.cell? ⟨w5.heap.size, 1, none⟩ = some (.int .i64 s1) ∧ w'.cell? ⟨w5.heap.size, 2, none⟩ = some (.int .i64 e1) ∧ w'.cell? ⟨w5.heap.size, 3, none⟩ = some (.string n1)) (first | with_reducible exact HS.out _ kz | with_reducible exact HS.out _ (grow_on kz hy0) | with_reducible exact HS.out _ (grow_on (grow_on kz hy0) hy1) | (go_keep; done)) (first | (go_at_call 41; with_reducible refine (Alm.to_any a1 cap1 l1 s1 e1 n1 _ (R1.out.below (grow_on B8.out kz)) K1.out).mono ?_; rintro e wy ⟨⟨EM, Ecs, rfl, -, hk, -, hh⟩, hy0⟩) | (go_at_call 42; refine (Alm.eq_any _ _ _ _ l1 l1 s1 e1 s1 e1 n1 n1 _ ((held_reads Y_8.out Yh.out).below (grow_on kz hy0)) (held_reads hk hh) M1.out M1.out).mono ?_; rintro e w9 ⟨rfl, hy1⟩))
  have hb := (grow_on (grow_on kz hy0) hy1)
  have B9 : Hid (Below w.heap.size w w9) := grow_on B8.out hb
  have Z9 : Hid (w8.heap.size ≤ w9.heap.size) := hb.size
  have P0_9 : Hid (Blk w9 w.heap.size #[.int .i64 n0, .slice ka0 key0.length kc0, .int .i64 b0, .int .i64 t0, .slice a0 l0.length cap0] 58) := P0_8.out.grow hb
  have P1_9 : Hid (Blk w9 (w.heap.size + 1) #[.slice a1 l1.length cap1, .int .i64 s1, .int .i64 e1, .string n1] 72) := P1_8.out.grow hb
  have W0_9 : Hid (Blk w9 WN #[.int .i64 n0, .slice (some ⟨WK, 0, none⟩) key0.length Wd, .int .i64 b0, .int .i64 t0, .slice (some ⟨WM, Wf, none⟩) Wr.length Wc] 27) := W0_8.out.grow hb
  have W_9 : Hid (GB w2.heap.size w9 WK key0 WM Wf Wr) := W_8.out.grow hb
  have X_9 : Hid (GB w3.heap.size w9 XK key0 XM 0 Xr) := X_8.out.grow hb
  have Q0_9 : Hid (Blk w9 w4.heap.size #[.int .i64 n0, .slice (some ⟨XK, 0, none⟩) key0.length key0.length, .int .i64 b0, .int .i64 t0, .slice (some ⟨XM, 0, none⟩) l0.length l0.length] 27) := Q0_8.out.grow hb
  have Y_9 : Hid (Blk w9 YM Ycs 94) := Y_8.out.grow hb
  have Q1_9 : Hid (Blk w9 w5.heap.size #[.slice (some ⟨YM, 0, none⟩) l1.length l1.length, .int .i64 s1, .int .i64 e1, .string n1] 29) := Q1_8.out.grow hb
  have G_9 : Hid (GB w5.heap.size w9 GK key0 GM Gf Gr) := G_8.out.grow hb
  have G0_9 : Hid (Blk w9 w6.heap.size #[.int .i64 n0, .slice (some ⟨GK, 0, none⟩) key0.length Gd, .int .i64 b0, .int .i64 t0, .slice (some ⟨GM, Gf, none⟩) Gr.length Gc] 27) := G0_8.out.grow hb
  clear hb kz HS hy0 hy1 kP1 kQ1 cP10 cP11 cP12 cP13 cQ10 cQ11 cQ12 cQ13 hk hh
  have XN : Hid (Xr.length = l0.length) := len_of XP.out
  have XS : Hid (1 + 2 * key0.length + sumA Xr ≤ 9000000) := by have h1 := marks_of XP.out; have h2 := K0.out; show _ ≤ _; omega
  have hXM : Hid (Calls Try.prog 43 #[.agg #[.int .i64 n0, .slice (some ⟨XK, 0, none⟩) key0.length key0.length, .int .i64 b0, .int .i64 t0, .slice (some ⟨XM, 0, none⟩) l0.length l0.length], .int .i64 1] w9 fun e w' => e = .returned (.int .i64 ((1 + 2 * key0.length + sumA Xr : Nat) : Int)) ∧ Only (gblks XK XM Xr) w9 w') := by
    have h := (Grp.markGroup_any n0 b0 t0 XK key0.length key0 XM 0 l0.length 1 _ Xr w9 X_9.out K0.out.1 (by rw [XN.out]; have := K0.out.2.1; omega) (by omega) XS.out).mono (fun e w' h => (⟨h.1, h.2.2⟩ : e = .returned (.int .i64 ((1 + 2 * key0.length + sumA Xr : Nat) : Int)) ∧ Only (gblks XK XM Xr) w9 w'))
    rw [XN.out] at h
    exact h
  have cP00 : w9.cell? ⟨w.heap.size, 0, none⟩ = some (.int .i64 n0) := (P0_9.out).cell 0
  have cP01 : w9.cell? ⟨w.heap.size, 1, none⟩ = some (.slice ka0 key0.length kc0) := (P0_9.out).cell 1
  have cP02 : w9.cell? ⟨w.heap.size, 2, none⟩ = some (.int .i64 b0) := (P0_9.out).cell 2
  have cP03 : w9.cell? ⟨w.heap.size, 3, none⟩ = some (.int .i64 t0) := (P0_9.out).cell 3
  have cP04 : w9.cell? ⟨w.heap.size, 4, none⟩ = some (.slice a0 l0.length cap0) := (P0_9.out).cell 4
  have cP10 : w9.cell? ⟨(w.heap.size + 1), 0, none⟩ = some (.slice a1 l1.length cap1) := (P1_9.out).cell 0
  have cP11 : w9.cell? ⟨(w.heap.size + 1), 1, none⟩ = some (.int .i64 s1) := (P1_9.out).cell 1
  have cP12 : w9.cell? ⟨(w.heap.size + 1), 2, none⟩ = some (.int .i64 e1) := (P1_9.out).cell 2
  have cP13 : w9.cell? ⟨(w.heap.size + 1), 3, none⟩ = some (.string n1) := (P1_9.out).cell 3
  have cW00 : w9.cell? ⟨WN, 0, none⟩ = some (.int .i64 n0) := (W0_9.out).cell 0
  have cW01 : w9.cell? ⟨WN, 1, none⟩ = some (.slice (some ⟨WK, 0, none⟩) key0.length Wd) := (W0_9.out).cell 1
  have cW02 : w9.cell? ⟨WN, 2, none⟩ = some (.int .i64 b0) := (W0_9.out).cell 2
  have cW03 : w9.cell? ⟨WN, 3, none⟩ = some (.int .i64 t0) := (W0_9.out).cell 3
  have cW04 : w9.cell? ⟨WN, 4, none⟩ = some (.slice (some ⟨WM, Wf, none⟩) Wr.length Wc) := (W0_9.out).cell 4
  have cQ00 : w9.cell? ⟨w4.heap.size, 0, none⟩ = some (.int .i64 n0) := (Q0_9.out).cell 0
  have cQ01 : w9.cell? ⟨w4.heap.size, 1, none⟩ = some (.slice (some ⟨XK, 0, none⟩) key0.length key0.length) := (Q0_9.out).cell 1
  have cQ02 : w9.cell? ⟨w4.heap.size, 2, none⟩ = some (.int .i64 b0) := (Q0_9.out).cell 2
  have cQ03 : w9.cell? ⟨w4.heap.size, 3, none⟩ = some (.int .i64 t0) := (Q0_9.out).cell 3
  have cQ04 : w9.cell? ⟨w4.heap.size, 4, none⟩ = some (.slice (some ⟨XM, 0, none⟩) l0.length l0.length) := (Q0_9.out).cell 4
  have cQ10 : w9.cell? ⟨w5.heap.size, 0, none⟩ = some (.slice (some ⟨YM, 0, none⟩) l1.length l1.length) := (Q1_9.out).cell 0
  have cQ11 : w9.cell? ⟨w5.heap.size, 1, none⟩ = some (.int .i64 s1) := (Q1_9.out).cell 1
  have cQ12 : w9.cell? ⟨w5.heap.size, 2, none⟩ = some (.int .i64 e1) := (Q1_9.out).cell 2
  have cQ13 : w9.cell? ⟨w5.heap.size, 3, none⟩ = some (.string n1) := (Q1_9.out).cell 3
  have cG00 : w9.cell? ⟨w6.heap.size, 0, none⟩ = some (.int .i64 n0) := (G0_9.out).cell 0
  have cG01 : w9.cell? ⟨w6.heap.size, 1, none⟩ = some (.slice (some ⟨GK, 0, none⟩) key0.length Gd) := (G0_9.out).cell 1
  have cG02 : w9.cell? ⟨w6.heap.size, 2, none⟩ = some (.int .i64 b0) := (G0_9.out).cell 2
  have cG03 : w9.cell? ⟨w6.heap.size, 3, none⟩ = some (.int .i64 t0) := (G0_9.out).cell 3
  have cG04 : w9.cell? ⟨w6.heap.size, 4, none⟩ = some (.slice (some ⟨GM, Gf, none⟩) Gr.length Gc) := (G0_9.out).cell 4
  go_wp2_with fail
  refine (hXM.out).mono ?_
  rintro e w10 ⟨rfl, ho⟩
  have B10 : Hid (Below w.heap.size w w10) := B9.out.trans (ho.low (fun k hk => by have hx := XR.out k hk; have hw := B3.out.size; have h0 := Z1.out; have h1 := Z2.out; have h2 := Z3.out; have h3 := Z4.out; have h4 := Z5.out; have h5 := Z6.out; have h6 := Z7.out; have h7 := Z8.out; have h8 := Z9.out; have h9 := U_P0.out; have h10 := U_P1.out; have h11 := U_W.out; have h12 := U_Q0.out; have h13 := U_Y.out; have h14 := U_Q1.out; have h15 := U_G0.out; omega) B9.out.size)
  have Z10 : Hid (w9.heap.size ≤ w10.heap.size) := ho.size
  have P0_10 : Hid (Blk w10 w.heap.size #[.int .i64 n0, .slice ka0 key0.length kc0, .int .i64 b0, .int .i64 t0, .slice a0 l0.length cap0] 58) := ho.blk P0_9.out (fun hs => by have hx := XR.out _ hs; have h0 := Z1.out; have h1 := Z2.out; have h2 := Z3.out; have h3 := Z4.out; have h4 := Z5.out; have h5 := Z6.out; have h6 := Z7.out; have h7 := Z8.out; have h8 := Z9.out; have h9 := Z10.out; have h10 := U_P0.out; have h11 := U_P1.out; have h12 := U_W.out; have h13 := U_Q0.out; have h14 := U_Y.out; have h15 := U_Q1.out; have h16 := U_G0.out; omega)
  have P1_10 : Hid (Blk w10 (w.heap.size + 1) #[.slice a1 l1.length cap1, .int .i64 s1, .int .i64 e1, .string n1] 72) := ho.blk P1_9.out (fun hs => by have hx := XR.out _ hs; have h0 := Z1.out; have h1 := Z2.out; have h2 := Z3.out; have h3 := Z4.out; have h4 := Z5.out; have h5 := Z6.out; have h6 := Z7.out; have h7 := Z8.out; have h8 := Z9.out; have h9 := Z10.out; have h10 := U_P0.out; have h11 := U_P1.out; have h12 := U_W.out; have h13 := U_Q0.out; have h14 := U_Y.out; have h15 := U_Q1.out; have h16 := U_G0.out; omega)
  have W0_10 : Hid (Blk w10 WN #[.int .i64 n0, .slice (some ⟨WK, 0, none⟩) key0.length Wd, .int .i64 b0, .int .i64 t0, .slice (some ⟨WM, Wf, none⟩) Wr.length Wc] 27) := ho.blk W0_9.out (fun hs => by have hx := XR.out _ hs; have h0 := Z1.out; have h1 := Z2.out; have h2 := Z3.out; have h3 := Z4.out; have h4 := Z5.out; have h5 := Z6.out; have h6 := Z7.out; have h7 := Z8.out; have h8 := Z9.out; have h9 := Z10.out; have h10 := U_P0.out; have h11 := U_P1.out; have h12 := U_W.out; have h13 := U_Q0.out; have h14 := U_Y.out; have h15 := U_Q1.out; have h16 := U_G0.out; omega)
  have W_10 : Hid (GB w2.heap.size w10 WK key0 WM Wf Wr) := W_9.out.only ho (fun k hk hs => by have hx := XR.out k hs; have hy := WR.out k hk; have h0 := Z1.out; have h1 := Z2.out; have h2 := Z3.out; have h3 := Z4.out; have h4 := Z5.out; have h5 := Z6.out; have h6 := Z7.out; have h7 := Z8.out; have h8 := Z9.out; have h9 := Z10.out; have h10 := U_P0.out; have h11 := U_P1.out; have h12 := U_W.out; have h13 := U_Q0.out; have h14 := U_Y.out; have h15 := U_Q1.out; have h16 := U_G0.out; omega)
  have Y_10 : Hid (Blk w10 YM Ycs 94) := ho.blk Y_9.out (fun hs => by have hx := XR.out _ hs; have h0 := Z1.out; have h1 := Z2.out; have h2 := Z3.out; have h3 := Z4.out; have h4 := Z5.out; have h5 := Z6.out; have h6 := Z7.out; have h7 := Z8.out; have h8 := Z9.out; have h9 := Z10.out; have h10 := U_P0.out; have h11 := U_P1.out; have h12 := U_W.out; have h13 := U_Q0.out; have h14 := U_Y.out; have h15 := U_Q1.out; have h16 := U_G0.out; omega)
  have Q1_10 : Hid (Blk w10 w5.heap.size #[.slice (some ⟨YM, 0, none⟩) l1.length l1.length, .int .i64 s1, .int .i64 e1, .string n1] 29) := ho.blk Q1_9.out (fun hs => by have hx := XR.out _ hs; have h0 := Z1.out; have h1 := Z2.out; have h2 := Z3.out; have h3 := Z4.out; have h4 := Z5.out; have h5 := Z6.out; have h6 := Z7.out; have h7 := Z8.out; have h8 := Z9.out; have h9 := Z10.out; have h10 := U_P0.out; have h11 := U_P1.out; have h12 := U_W.out; have h13 := U_Q0.out; have h14 := U_Y.out; have h15 := U_Q1.out; have h16 := U_G0.out; omega)
  have G_10 : Hid (GB w5.heap.size w10 GK key0 GM Gf Gr) := G_9.out.only ho (fun k hk hs => by have hx := XR.out k hs; have hy := GR.out k hk; have h0 := Z1.out; have h1 := Z2.out; have h2 := Z3.out; have h3 := Z4.out; have h4 := Z5.out; have h5 := Z6.out; have h6 := Z7.out; have h7 := Z8.out; have h8 := Z9.out; have h9 := Z10.out; have h10 := U_P0.out; have h11 := U_P1.out; have h12 := U_W.out; have h13 := U_Q0.out; have h14 := U_Y.out; have h15 := U_Q1.out; have h16 := U_G0.out; omega)
  have G0_10 : Hid (Blk w10 w6.heap.size #[.int .i64 n0, .slice (some ⟨GK, 0, none⟩) key0.length Gd, .int .i64 b0, .int .i64 t0, .slice (some ⟨GM, Gf, none⟩) Gr.length Gc] 27) := ho.blk G0_9.out (fun hs => by have hx := XR.out _ hs; have h0 := Z1.out; have h1 := Z2.out; have h2 := Z3.out; have h3 := Z4.out; have h4 := Z5.out; have h5 := Z6.out; have h6 := Z7.out; have h7 := Z8.out; have h8 := Z9.out; have h9 := Z10.out; have h10 := U_P0.out; have h11 := U_P1.out; have h12 := U_W.out; have h13 := U_Q0.out; have h14 := U_Y.out; have h15 := U_Q1.out; have h16 := U_G0.out; omega)
  clear ho cP00 cP01 cP02 cP03 cP04 cP10 cP11 cP12 cP13 cW00 cW01 cW02 cW03 cW04 cQ00 cQ01 cQ02 cQ03 cQ04 cQ10 cQ11 cQ12 cQ13 cG00 cG01 cG02 cG03 cG04
  have MX : Hid (1 ≤ 1 + 2 * key0.length + sumA Xr ∧ 1 + 2 * key0.length + sumA Xr ≤ 10000000) := by have := XS.out; exact ⟨by omega, by omega⟩
  generalize 1 + 2 * key0.length + sumA Xr = m1 at MX ⊢
  have cP00 : w10.cell? ⟨w.heap.size, 0, none⟩ = some (.int .i64 n0) := (P0_10.out).cell 0
  have cP01 : w10.cell? ⟨w.heap.size, 1, none⟩ = some (.slice ka0 key0.length kc0) := (P0_10.out).cell 1
  have cP02 : w10.cell? ⟨w.heap.size, 2, none⟩ = some (.int .i64 b0) := (P0_10.out).cell 2
  have cP03 : w10.cell? ⟨w.heap.size, 3, none⟩ = some (.int .i64 t0) := (P0_10.out).cell 3
  have cP04 : w10.cell? ⟨w.heap.size, 4, none⟩ = some (.slice a0 l0.length cap0) := (P0_10.out).cell 4
  have cP10 : w10.cell? ⟨(w.heap.size + 1), 0, none⟩ = some (.slice a1 l1.length cap1) := (P1_10.out).cell 0
  have cP11 : w10.cell? ⟨(w.heap.size + 1), 1, none⟩ = some (.int .i64 s1) := (P1_10.out).cell 1
  have cP12 : w10.cell? ⟨(w.heap.size + 1), 2, none⟩ = some (.int .i64 e1) := (P1_10.out).cell 2
  have cP13 : w10.cell? ⟨(w.heap.size + 1), 3, none⟩ = some (.string n1) := (P1_10.out).cell 3
  have cW00 : w10.cell? ⟨WN, 0, none⟩ = some (.int .i64 n0) := (W0_10.out).cell 0
  have cW01 : w10.cell? ⟨WN, 1, none⟩ = some (.slice (some ⟨WK, 0, none⟩) key0.length Wd) := (W0_10.out).cell 1
  have cW02 : w10.cell? ⟨WN, 2, none⟩ = some (.int .i64 b0) := (W0_10.out).cell 2
  have cW03 : w10.cell? ⟨WN, 3, none⟩ = some (.int .i64 t0) := (W0_10.out).cell 3
  have cW04 : w10.cell? ⟨WN, 4, none⟩ = some (.slice (some ⟨WM, Wf, none⟩) Wr.length Wc) := (W0_10.out).cell 4
  have cQ10 : w10.cell? ⟨w5.heap.size, 0, none⟩ = some (.slice (some ⟨YM, 0, none⟩) l1.length l1.length) := (Q1_10.out).cell 0
  have cQ11 : w10.cell? ⟨w5.heap.size, 1, none⟩ = some (.int .i64 s1) := (Q1_10.out).cell 1
  have cQ12 : w10.cell? ⟨w5.heap.size, 2, none⟩ = some (.int .i64 e1) := (Q1_10.out).cell 2
  have cQ13 : w10.cell? ⟨w5.heap.size, 3, none⟩ = some (.string n1) := (Q1_10.out).cell 3
  have cG00 : w10.cell? ⟨w6.heap.size, 0, none⟩ = some (.int .i64 n0) := (G0_10.out).cell 0
  have cG01 : w10.cell? ⟨w6.heap.size, 1, none⟩ = some (.slice (some ⟨GK, 0, none⟩) key0.length Gd) := (G0_10.out).cell 1
  have cG02 : w10.cell? ⟨w6.heap.size, 2, none⟩ = some (.int .i64 b0) := (G0_10.out).cell 2
  have cG03 : w10.cell? ⟨w6.heap.size, 3, none⟩ = some (.int .i64 t0) := (G0_10.out).cell 3
  have cG04 : w10.cell? ⟨w6.heap.size, 4, none⟩ = some (.slice (some ⟨GM, Gf, none⟩) Gr.length Gc) := (G0_10.out).cell 4
  go_wp2_with fail
  refine (AlmK.markA_any YM l1.length l1.length m1 s1 e1 n1 Ycs _ Y_10.out (by rw [Ys.out]; exact Nat.le_refl _) K1.out MX.out.1 MX.out.2).mono ?_
  rintro e w11 ⟨rfl, -, ha⟩
  have B11 : Hid (Below w.heap.size w w11) := B10.out.trans (ha.low (by have h0 := B4.out.size; have h0 := Z1.out; have h1 := Z2.out; have h2 := Z3.out; have h3 := Z4.out; have h4 := Z5.out; have h5 := Z6.out; have h6 := Z7.out; have h7 := Z8.out; have h8 := Z9.out; have h9 := Z10.out; have h10 := U_P0.out; have h11 := U_P1.out; have h12 := U_W.out; have h13 := U_Q0.out; have h14 := U_Y.out; have h15 := U_Q1.out; have h16 := U_G0.out; omega) B10.out.size)
  have Z11 : Hid (w10.heap.size ≤ w11.heap.size) := ha.size
  have P0_11 : Hid (Blk w11 w.heap.size #[.int .i64 n0, .slice ka0 key0.length kc0, .int .i64 b0, .int .i64 t0, .slice a0 l0.length cap0] 58) := ha.blk P0_10.out (by have h0 := Z1.out; have h1 := Z2.out; have h2 := Z3.out; have h3 := Z4.out; have h4 := Z5.out; have h5 := Z6.out; have h6 := Z7.out; have h7 := Z8.out; have h8 := Z9.out; have h9 := Z10.out; have h10 := Z11.out; have h11 := U_P0.out; have h12 := U_P1.out; have h13 := U_W.out; have h14 := U_Q0.out; have h15 := U_Y.out; have h16 := U_Q1.out; have h17 := U_G0.out; omega)
  have P1_11 : Hid (Blk w11 (w.heap.size + 1) #[.slice a1 l1.length cap1, .int .i64 s1, .int .i64 e1, .string n1] 72) := ha.blk P1_10.out (by have h0 := Z1.out; have h1 := Z2.out; have h2 := Z3.out; have h3 := Z4.out; have h4 := Z5.out; have h5 := Z6.out; have h6 := Z7.out; have h7 := Z8.out; have h8 := Z9.out; have h9 := Z10.out; have h10 := Z11.out; have h11 := U_P0.out; have h12 := U_P1.out; have h13 := U_W.out; have h14 := U_Q0.out; have h15 := U_Y.out; have h16 := U_Q1.out; have h17 := U_G0.out; omega)
  have W0_11 : Hid (Blk w11 WN #[.int .i64 n0, .slice (some ⟨WK, 0, none⟩) key0.length Wd, .int .i64 b0, .int .i64 t0, .slice (some ⟨WM, Wf, none⟩) Wr.length Wc] 27) := ha.blk W0_10.out (by have h0 := Z1.out; have h1 := Z2.out; have h2 := Z3.out; have h3 := Z4.out; have h4 := Z5.out; have h5 := Z6.out; have h6 := Z7.out; have h7 := Z8.out; have h8 := Z9.out; have h9 := Z10.out; have h10 := Z11.out; have h11 := U_P0.out; have h12 := U_P1.out; have h13 := U_W.out; have h14 := U_Q0.out; have h15 := U_Y.out; have h16 := U_Q1.out; have h17 := U_G0.out; omega)
  have W_11 : Hid (GB w2.heap.size w11 WK key0 WM Wf Wr) := W_10.out.only (Only.apart (S := fun k => k = YM) ha rfl) (fun k hk hs => by have hy := WR.out k hk; have h0 := Z1.out; have h1 := Z2.out; have h2 := Z3.out; have h3 := Z4.out; have h4 := Z5.out; have h5 := Z6.out; have h6 := Z7.out; have h7 := Z8.out; have h8 := Z9.out; have h9 := Z10.out; have h10 := Z11.out; have h11 := U_P0.out; have h12 := U_P1.out; have h13 := U_W.out; have h14 := U_Q0.out; have h15 := U_Y.out; have h16 := U_Q1.out; have h17 := U_G0.out; omega)
  have G_11 : Hid (GB w5.heap.size w11 GK key0 GM Gf Gr) := G_10.out.only (Only.apart (S := fun k => k = YM) ha rfl) (fun k hk hs => by have hy := GR.out k hk; have h0 := Z1.out; have h1 := Z2.out; have h2 := Z3.out; have h3 := Z4.out; have h4 := Z5.out; have h5 := Z6.out; have h6 := Z7.out; have h7 := Z8.out; have h8 := Z9.out; have h9 := Z10.out; have h10 := Z11.out; have h11 := U_P0.out; have h12 := U_P1.out; have h13 := U_W.out; have h14 := U_Q0.out; have h15 := U_Y.out; have h16 := U_Q1.out; have h17 := U_G0.out; omega)
  have G0_11 : Hid (Blk w11 w6.heap.size #[.int .i64 n0, .slice (some ⟨GK, 0, none⟩) key0.length Gd, .int .i64 b0, .int .i64 t0, .slice (some ⟨GM, Gf, none⟩) Gr.length Gc] 27) := ha.blk G0_10.out (by have h0 := Z1.out; have h1 := Z2.out; have h2 := Z3.out; have h3 := Z4.out; have h4 := Z5.out; have h5 := Z6.out; have h6 := Z7.out; have h7 := Z8.out; have h8 := Z9.out; have h9 := Z10.out; have h10 := Z11.out; have h11 := U_P0.out; have h12 := U_P1.out; have h13 := U_W.out; have h14 := U_Q0.out; have h15 := U_Y.out; have h16 := U_Q1.out; have h17 := U_G0.out; omega)
  clear ha cP00 cP01 cP02 cP03 cP04 cP10 cP11 cP12 cP13 cW00 cW01 cW02 cW03 cW04 cQ10 cQ11 cQ12 cQ13 cG00 cG01 cG02 cG03 cG04
  have hq : ¬ ((m1 + 2 * l1.length : Nat) : Int) < 0 := by omega
  generalize m1 + 2 * l1.length = m2 at hq ⊢
  have cP00 : w11.cell? ⟨w.heap.size, 0, none⟩ = some (.int .i64 n0) := (P0_11.out).cell 0
  have cP01 : w11.cell? ⟨w.heap.size, 1, none⟩ = some (.slice ka0 key0.length kc0) := (P0_11.out).cell 1
  have cP02 : w11.cell? ⟨w.heap.size, 2, none⟩ = some (.int .i64 b0) := (P0_11.out).cell 2
  have cP03 : w11.cell? ⟨w.heap.size, 3, none⟩ = some (.int .i64 t0) := (P0_11.out).cell 3
  have cP04 : w11.cell? ⟨w.heap.size, 4, none⟩ = some (.slice a0 l0.length cap0) := (P0_11.out).cell 4
  have cP10 : w11.cell? ⟨(w.heap.size + 1), 0, none⟩ = some (.slice a1 l1.length cap1) := (P1_11.out).cell 0
  have cP11 : w11.cell? ⟨(w.heap.size + 1), 1, none⟩ = some (.int .i64 s1) := (P1_11.out).cell 1
  have cP12 : w11.cell? ⟨(w.heap.size + 1), 2, none⟩ = some (.int .i64 e1) := (P1_11.out).cell 2
  have cP13 : w11.cell? ⟨(w.heap.size + 1), 3, none⟩ = some (.string n1) := (P1_11.out).cell 3
  have cW00 : w11.cell? ⟨WN, 0, none⟩ = some (.int .i64 n0) := (W0_11.out).cell 0
  have cW01 : w11.cell? ⟨WN, 1, none⟩ = some (.slice (some ⟨WK, 0, none⟩) key0.length Wd) := (W0_11.out).cell 1
  have cW02 : w11.cell? ⟨WN, 2, none⟩ = some (.int .i64 b0) := (W0_11.out).cell 2
  have cW03 : w11.cell? ⟨WN, 3, none⟩ = some (.int .i64 t0) := (W0_11.out).cell 3
  have cW04 : w11.cell? ⟨WN, 4, none⟩ = some (.slice (some ⟨WM, Wf, none⟩) Wr.length Wc) := (W0_11.out).cell 4
  have cG00 : w11.cell? ⟨w6.heap.size, 0, none⟩ = some (.int .i64 n0) := (G0_11.out).cell 0
  have cG01 : w11.cell? ⟨w6.heap.size, 1, none⟩ = some (.slice (some ⟨GK, 0, none⟩) key0.length Gd) := (G0_11.out).cell 1
  have cG02 : w11.cell? ⟨w6.heap.size, 2, none⟩ = some (.int .i64 b0) := (G0_11.out).cell 2
  have cG03 : w11.cell? ⟨w6.heap.size, 3, none⟩ = some (.int .i64 t0) := (G0_11.out).cell 3
  have cG04 : w11.cell? ⟨w6.heap.size, 4, none⟩ = some (.slice (some ⟨GM, Gf, none⟩) Gr.length Gc) := (G0_11.out).cell 4
  go_wp2_with fail
  refine (eqG_any n0 b0 t0 _ _ _ _ key0 _ _ _ _ Gr Wr JL _ (G_11.out.key.rd) (W_11.out.key.rd) Q0k.out.1 (G_11.out.row.rd) (W_11.out.row.rd) GP.out WP.out PF.out.1 PF.out.2).mono ?_
  rintro e w12 ⟨rfl, hb⟩
  have B12 : Hid (Below w.heap.size w w12) := grow_on B11.out hb
  have Z12 : Hid (w11.heap.size ≤ w12.heap.size) := hb.size
  have P0_12 : Hid (Blk w12 w.heap.size #[.int .i64 n0, .slice ka0 key0.length kc0, .int .i64 b0, .int .i64 t0, .slice a0 l0.length cap0] 58) := P0_11.out.grow hb
  have P1_12 : Hid (Blk w12 (w.heap.size + 1) #[.slice a1 l1.length cap1, .int .i64 s1, .int .i64 e1, .string n1] 72) := P1_11.out.grow hb
  have W0_12 : Hid (Blk w12 WN #[.int .i64 n0, .slice (some ⟨WK, 0, none⟩) key0.length Wd, .int .i64 b0, .int .i64 t0, .slice (some ⟨WM, Wf, none⟩) Wr.length Wc] 27) := W0_11.out.grow hb
  have W_12 : Hid (GB w2.heap.size w12 WK key0 WM Wf Wr) := W_11.out.grow hb
  have G_12 : Hid (GB w5.heap.size w12 GK key0 GM Gf Gr) := G_11.out.grow hb
  have G0_12 : Hid (Blk w12 w6.heap.size #[.int .i64 n0, .slice (some ⟨GK, 0, none⟩) key0.length Gd, .int .i64 b0, .int .i64 t0, .slice (some ⟨GM, Gf, none⟩) Gr.length Gc] 27) := G0_11.out.grow hb
  clear hb cP00 cP01 cP02 cP03 cP04 cP10 cP11 cP12 cP13 cW00 cW01 cW02 cW03 cW04 cG00 cG01 cG02 cG03 cG04
  clear hq
  have GS : Hid (1 + 2 * key0.length + sumA Gr ≤ 9000000 ∧ Gr.length ≤ 2000000) := by have h1 := marks_of GP.out; have h2 := len_of GP.out; have h3 := PS.out; have h4 := K0.out; have h5 := K1.out; exact ⟨by omega, by omega⟩
  have cP00 : w12.cell? ⟨w.heap.size, 0, none⟩ = some (.int .i64 n0) := (P0_12.out).cell 0
  have cP01 : w12.cell? ⟨w.heap.size, 1, none⟩ = some (.slice ka0 key0.length kc0) := (P0_12.out).cell 1
  have cP02 : w12.cell? ⟨w.heap.size, 2, none⟩ = some (.int .i64 b0) := (P0_12.out).cell 2
  have cP03 : w12.cell? ⟨w.heap.size, 3, none⟩ = some (.int .i64 t0) := (P0_12.out).cell 3
  have cP04 : w12.cell? ⟨w.heap.size, 4, none⟩ = some (.slice a0 l0.length cap0) := (P0_12.out).cell 4
  have cP10 : w12.cell? ⟨(w.heap.size + 1), 0, none⟩ = some (.slice a1 l1.length cap1) := (P1_12.out).cell 0
  have cP11 : w12.cell? ⟨(w.heap.size + 1), 1, none⟩ = some (.int .i64 s1) := (P1_12.out).cell 1
  have cP12 : w12.cell? ⟨(w.heap.size + 1), 2, none⟩ = some (.int .i64 e1) := (P1_12.out).cell 2
  have cP13 : w12.cell? ⟨(w.heap.size + 1), 3, none⟩ = some (.string n1) := (P1_12.out).cell 3
  have cW00 : w12.cell? ⟨WN, 0, none⟩ = some (.int .i64 n0) := (W0_12.out).cell 0
  have cW01 : w12.cell? ⟨WN, 1, none⟩ = some (.slice (some ⟨WK, 0, none⟩) key0.length Wd) := (W0_12.out).cell 1
  have cW02 : w12.cell? ⟨WN, 2, none⟩ = some (.int .i64 b0) := (W0_12.out).cell 2
  have cW03 : w12.cell? ⟨WN, 3, none⟩ = some (.int .i64 t0) := (W0_12.out).cell 3
  have cW04 : w12.cell? ⟨WN, 4, none⟩ = some (.slice (some ⟨WM, Wf, none⟩) Wr.length Wc) := (W0_12.out).cell 4
  have cG00 : w12.cell? ⟨w6.heap.size, 0, none⟩ = some (.int .i64 n0) := (G0_12.out).cell 0
  have cG01 : w12.cell? ⟨w6.heap.size, 1, none⟩ = some (.slice (some ⟨GK, 0, none⟩) key0.length Gd) := (G0_12.out).cell 1
  have cG02 : w12.cell? ⟨w6.heap.size, 2, none⟩ = some (.int .i64 b0) := (G0_12.out).cell 2
  have cG03 : w12.cell? ⟨w6.heap.size, 3, none⟩ = some (.int .i64 t0) := (G0_12.out).cell 3
  have cG04 : w12.cell? ⟨w6.heap.size, 4, none⟩ = some (.slice (some ⟨GM, Gf, none⟩) Gr.length Gc) := (G0_12.out).cell 4
  go_wp2_with fail
  refine (Grp.markGroup_any n0 b0 t0 GK _ key0 GM Gf Gc 1 _ Gr w12 G_12.out K0.out.1 GS.out.2 (by omega) GS.out.1).mono ?_
  rintro e w13 ⟨rfl, hm, ho⟩
  have B13 : Hid (Below w.heap.size w w13) := B12.out.trans (ho.low (fun k hk => by have hx := GR.out k hk; have hw := B3.out.size; have h0 := Z1.out; have h1 := Z2.out; have h2 := Z3.out; have h3 := Z4.out; have h4 := Z5.out; have h5 := Z6.out; have h6 := Z7.out; have h7 := Z8.out; have h8 := Z9.out; have h9 := Z10.out; have h10 := Z11.out; have h11 := Z12.out; have h12 := U_P0.out; have h13 := U_P1.out; have h14 := U_W.out; have h15 := U_Q0.out; have h16 := U_Y.out; have h17 := U_Q1.out; have h18 := U_G0.out; omega) B12.out.size)
  have Z13 : Hid (w12.heap.size ≤ w13.heap.size) := ho.size
  have P0_13 : Hid (Blk w13 w.heap.size #[.int .i64 n0, .slice ka0 key0.length kc0, .int .i64 b0, .int .i64 t0, .slice a0 l0.length cap0] 58) := ho.blk P0_12.out (fun hs => by have hx := GR.out _ hs; have h0 := Z1.out; have h1 := Z2.out; have h2 := Z3.out; have h3 := Z4.out; have h4 := Z5.out; have h5 := Z6.out; have h6 := Z7.out; have h7 := Z8.out; have h8 := Z9.out; have h9 := Z10.out; have h10 := Z11.out; have h11 := Z12.out; have h12 := Z13.out; have h13 := U_P0.out; have h14 := U_P1.out; have h15 := U_W.out; have h16 := U_Q0.out; have h17 := U_Y.out; have h18 := U_Q1.out; have h19 := U_G0.out; omega)
  have P1_13 : Hid (Blk w13 (w.heap.size + 1) #[.slice a1 l1.length cap1, .int .i64 s1, .int .i64 e1, .string n1] 72) := ho.blk P1_12.out (fun hs => by have hx := GR.out _ hs; have h0 := Z1.out; have h1 := Z2.out; have h2 := Z3.out; have h3 := Z4.out; have h4 := Z5.out; have h5 := Z6.out; have h6 := Z7.out; have h7 := Z8.out; have h8 := Z9.out; have h9 := Z10.out; have h10 := Z11.out; have h11 := Z12.out; have h12 := Z13.out; have h13 := U_P0.out; have h14 := U_P1.out; have h15 := U_W.out; have h16 := U_Q0.out; have h17 := U_Y.out; have h18 := U_Q1.out; have h19 := U_G0.out; omega)
  have W0_13 : Hid (Blk w13 WN #[.int .i64 n0, .slice (some ⟨WK, 0, none⟩) key0.length Wd, .int .i64 b0, .int .i64 t0, .slice (some ⟨WM, Wf, none⟩) Wr.length Wc] 27) := ho.blk W0_12.out (fun hs => by have hx := GR.out _ hs; have h0 := Z1.out; have h1 := Z2.out; have h2 := Z3.out; have h3 := Z4.out; have h4 := Z5.out; have h5 := Z6.out; have h6 := Z7.out; have h7 := Z8.out; have h8 := Z9.out; have h9 := Z10.out; have h10 := Z11.out; have h11 := Z12.out; have h12 := Z13.out; have h13 := U_P0.out; have h14 := U_P1.out; have h15 := U_W.out; have h16 := U_Q0.out; have h17 := U_Y.out; have h18 := U_Q1.out; have h19 := U_G0.out; omega)
  have W_13 : Hid (GB w2.heap.size w13 WK key0 WM Wf Wr) := W_12.out.only ho (fun k hk hs => by have hx := GR.out k hs; have hy := WR.out k hk; have h0 := Z1.out; have h1 := Z2.out; have h2 := Z3.out; have h3 := Z4.out; have h4 := Z5.out; have h5 := Z6.out; have h6 := Z7.out; have h7 := Z8.out; have h8 := Z9.out; have h9 := Z10.out; have h10 := Z11.out; have h11 := Z12.out; have h12 := Z13.out; have h13 := U_P0.out; have h14 := U_P1.out; have h15 := U_W.out; have h16 := U_Q0.out; have h17 := U_Y.out; have h18 := U_Q1.out; have h19 := U_G0.out; omega)
  have G0_13 : Hid (Blk w13 w6.heap.size #[.int .i64 n0, .slice (some ⟨GK, 0, none⟩) key0.length Gd, .int .i64 b0, .int .i64 t0, .slice (some ⟨GM, Gf, none⟩) Gr.length Gc] 27) := ho.blk G0_12.out (fun hs => by have hx := GR.out _ hs; have h0 := Z1.out; have h1 := Z2.out; have h2 := Z3.out; have h3 := Z4.out; have h4 := Z5.out; have h5 := Z6.out; have h6 := Z7.out; have h7 := Z8.out; have h8 := Z9.out; have h9 := Z10.out; have h10 := Z11.out; have h11 := Z12.out; have h12 := Z13.out; have h13 := U_P0.out; have h14 := U_P1.out; have h15 := U_W.out; have h16 := U_Q0.out; have h17 := U_Y.out; have h18 := U_Q1.out; have h19 := U_G0.out; omega)
  have H_13 : Hid (Grp.GM w13 GK key0.length GM Gf Gr 1) := hm
  clear hm
  clear ho cP00 cP01 cP02 cP03 cP04 cP10 cP11 cP12 cP13 cW00 cW01 cW02 cW03 cW04 cG00 cG01 cG02 cG03 cG04
  generalize hz1 : 1 + 2 * key0.length + sumA Gr = z1
  have HZ1 : Hid (1 + 2 * key0.length + sumA Gr = z1) := hz1
  clear hz1
  have hH1 : Hid (Calls Try.prog 45 #[.agg #[.int .i64 n0, .slice (some ⟨GK, 0, none⟩) key0.length Gd, .int .i64 b0, .int .i64 t0, .slice (some ⟨GM, Gf, none⟩) Gr.length Gc], .int .i64 1] w13 fun e w' => e = .returned (.int .i64 (z1 : Int)) ∧ Below w13.heap.size w13 w') := (Grp.heldGroup_any n0 b0 t0 GK Gd key0 GM Gf Gc 1 Gr w13 H_13.out GL.out K0.out.1 GS.out.2 (by omega) GS.out.1).mono (fun e w' h => ⟨h.1.trans (Mark.retI (by have := HZ1.out; omega)), h.2⟩)
  have hq1 : ¬ (z1 : Int) < 0 := by omega
  have cP00 : w13.cell? ⟨w.heap.size, 0, none⟩ = some (.int .i64 n0) := (P0_13.out).cell 0
  have cP01 : w13.cell? ⟨w.heap.size, 1, none⟩ = some (.slice ka0 key0.length kc0) := (P0_13.out).cell 1
  have cP02 : w13.cell? ⟨w.heap.size, 2, none⟩ = some (.int .i64 b0) := (P0_13.out).cell 2
  have cP03 : w13.cell? ⟨w.heap.size, 3, none⟩ = some (.int .i64 t0) := (P0_13.out).cell 3
  have cP04 : w13.cell? ⟨w.heap.size, 4, none⟩ = some (.slice a0 l0.length cap0) := (P0_13.out).cell 4
  have cP10 : w13.cell? ⟨(w.heap.size + 1), 0, none⟩ = some (.slice a1 l1.length cap1) := (P1_13.out).cell 0
  have cP11 : w13.cell? ⟨(w.heap.size + 1), 1, none⟩ = some (.int .i64 s1) := (P1_13.out).cell 1
  have cP12 : w13.cell? ⟨(w.heap.size + 1), 2, none⟩ = some (.int .i64 e1) := (P1_13.out).cell 2
  have cP13 : w13.cell? ⟨(w.heap.size + 1), 3, none⟩ = some (.string n1) := (P1_13.out).cell 3
  have cW00 : w13.cell? ⟨WN, 0, none⟩ = some (.int .i64 n0) := (W0_13.out).cell 0
  have cW01 : w13.cell? ⟨WN, 1, none⟩ = some (.slice (some ⟨WK, 0, none⟩) key0.length Wd) := (W0_13.out).cell 1
  have cW02 : w13.cell? ⟨WN, 2, none⟩ = some (.int .i64 b0) := (W0_13.out).cell 2
  have cW03 : w13.cell? ⟨WN, 3, none⟩ = some (.int .i64 t0) := (W0_13.out).cell 3
  have cW04 : w13.cell? ⟨WN, 4, none⟩ = some (.slice (some ⟨WM, Wf, none⟩) Wr.length Wc) := (W0_13.out).cell 4
  have cG00 : w13.cell? ⟨w6.heap.size, 0, none⟩ = some (.int .i64 n0) := (G0_13.out).cell 0
  have cG01 : w13.cell? ⟨w6.heap.size, 1, none⟩ = some (.slice (some ⟨GK, 0, none⟩) key0.length Gd) := (G0_13.out).cell 1
  have cG02 : w13.cell? ⟨w6.heap.size, 2, none⟩ = some (.int .i64 b0) := (G0_13.out).cell 2
  have cG03 : w13.cell? ⟨w6.heap.size, 3, none⟩ = some (.int .i64 t0) := (G0_13.out).cell 3
  have cG04 : w13.cell? ⟨w6.heap.size, 4, none⟩ = some (.slice (some ⟨GM, Gf, none⟩) Gr.length Gc) := (G0_13.out).cell 4
  go_wp2_with fail
  refine (hH1.out).mono ?_
  rintro e w14 ⟨rfl, hb⟩
  have B14 : Hid (Below w.heap.size w w14) := grow_on B13.out hb
  have Z14 : Hid (w13.heap.size ≤ w14.heap.size) := hb.size
  have P0_14 : Hid (Blk w14 w.heap.size #[.int .i64 n0, .slice ka0 key0.length kc0, .int .i64 b0, .int .i64 t0, .slice a0 l0.length cap0] 58) := P0_13.out.grow hb
  have P1_14 : Hid (Blk w14 (w.heap.size + 1) #[.slice a1 l1.length cap1, .int .i64 s1, .int .i64 e1, .string n1] 72) := P1_13.out.grow hb
  have W0_14 : Hid (Blk w14 WN #[.int .i64 n0, .slice (some ⟨WK, 0, none⟩) key0.length Wd, .int .i64 b0, .int .i64 t0, .slice (some ⟨WM, Wf, none⟩) Wr.length Wc] 27) := W0_13.out.grow hb
  have W_14 : Hid (GB w2.heap.size w14 WK key0 WM Wf Wr) := W_13.out.grow hb
  have G0_14 : Hid (Blk w14 w6.heap.size #[.int .i64 n0, .slice (some ⟨GK, 0, none⟩) key0.length Gd, .int .i64 b0, .int .i64 t0, .slice (some ⟨GM, Gf, none⟩) Gr.length Gc] 27) := G0_13.out.grow hb
  have H_14 : Hid (Grp.GM w14 GK key0.length GM Gf Gr 1) := H_13.out.grow hb
  clear hb cP00 cP01 cP02 cP03 cP04 cP10 cP11 cP12 cP13 cW00 cW01 cW02 cW03 cW04 cG00 cG01 cG02 cG03 cG04 hH1
  have cP00 : w14.cell? ⟨w.heap.size, 0, none⟩ = some (.int .i64 n0) := (P0_14.out).cell 0
  have cP01 : w14.cell? ⟨w.heap.size, 1, none⟩ = some (.slice ka0 key0.length kc0) := (P0_14.out).cell 1
  have cP02 : w14.cell? ⟨w.heap.size, 2, none⟩ = some (.int .i64 b0) := (P0_14.out).cell 2
  have cP03 : w14.cell? ⟨w.heap.size, 3, none⟩ = some (.int .i64 t0) := (P0_14.out).cell 3
  have cP04 : w14.cell? ⟨w.heap.size, 4, none⟩ = some (.slice a0 l0.length cap0) := (P0_14.out).cell 4
  have cP10 : w14.cell? ⟨(w.heap.size + 1), 0, none⟩ = some (.slice a1 l1.length cap1) := (P1_14.out).cell 0
  have cP11 : w14.cell? ⟨(w.heap.size + 1), 1, none⟩ = some (.int .i64 s1) := (P1_14.out).cell 1
  have cP12 : w14.cell? ⟨(w.heap.size + 1), 2, none⟩ = some (.int .i64 e1) := (P1_14.out).cell 2
  have cP13 : w14.cell? ⟨(w.heap.size + 1), 3, none⟩ = some (.string n1) := (P1_14.out).cell 3
  go_upto_region 31 with fail
  clear cP00 cP01 cP02 cP03 cP04 cP10 cP11 cP12 cP13
  have HS : Hid (∀ w', Blk w' w.heap.size #[.int .i64 n0, .slice ka0 key0.length kc0, .int .i64 b0, .int .i64 t0, .slice a0 l0.length cap0] 58 → Blk w' (w.heap.size + 1) #[.slice a1 l1.length cap1, .int .i64 s1, .int .i64 e1, .string n1] 72 → w'.cell? ⟨w.heap.size, 0, none⟩ = some (.int .i64 n0) ∧ w'.cell? ⟨w.heap.size, 1, none⟩ = some (.slice ka0 key0.length kc0) ∧ w'.cell? ⟨w.heap.size, 2, none⟩ = some (.int .i64 b0) ∧ w'.cell? ⟨w.heap.size, 3, none⟩ = some (.int .i64 t0) ∧ w'.cell? ⟨w.heap.size, 4, none⟩ = some (.slice a0 l0.length cap0) ∧ w'.cell? ⟨(w.heap.size + 1), 0, none⟩ = some (.slice a1 l1.length cap1) ∧ w'.cell? ⟨(w.heap.size + 1), 1, none⟩ = some (.int .i64 s1) ∧ w'.cell? ⟨(w.heap.size + 1), 2, none⟩ = some (.int .i64 e1) ∧ w'.cell? ⟨(w.heap.size + 1), 3, none⟩ = some (.string n1)) := fun w' h k => ⟨h.cell 0, h.cell 1, h.cell 2, h.cell 3, h.cell 4, k.cell 0, k.cell 1, k.cell 2, k.cell 3⟩
  go_cut [13] from 75 to 80 (fun s13 wx => ∃ (N Ke d M f c : Nat) (rs : List ARow), s13 = .pointer (some ⟨N, 0, none⟩) ∧ Blk wx N #[.int .i64 n0, .slice (some ⟨Ke, 0, none⟩) key0.length d, .int .i64 b0, .int .i64 t0, .slice (some ⟨M, f, none⟩) rs.length c] 27 ∧ GB w14.heap.size wx Ke key0 M f rs ∧ pals rs = JL ∧ w14.heap.size ≤ N ∧ Below w14.heap.size w14 wx ∧ ∀ k, gblks Ke M rs k → k ≠ N)
  case first =>
    refine wp_region_held_drew (S := fun w' => w'.cell? ⟨w.heap.size, 0, none⟩ = some (.int .i64 n0) ∧ w'.cell? ⟨w.heap.size, 1, none⟩ = some (.slice ka0 key0.length kc0) ∧ w'.cell? ⟨w.heap.size, 2, none⟩ = some (.int .i64 b0) ∧ w'.cell? ⟨w.heap.size, 3, none⟩ = some (.int .i64 t0) ∧ w'.cell? ⟨w.heap.size, 4, none⟩ = some (.slice a0 l0.length cap0) ∧ w'.cell? ⟨(w.heap.size + 1), 0, none⟩ = some (.slice a1 l1.length cap1) ∧ w'.cell? ⟨(w.heap.size + 1), 1, none⟩ = some (.int .i64 s1) ∧ w'.cell? ⟨(w.heap.size + 1), 2, none⟩ = some (.int .i64 e1) ∧ w'.cell? ⟨(w.heap.size + 1), 3, none⟩ = some (.string n1)) (by kernel_rfl) (HS.out _ P0_14.out.drew P1_14.out.drew) (fun hHeld => ?_)
    refine wpAnyH_take (i := 0) (oi := { dst := some 75, op := Op.load 58 (Operand.tmp 2), type := 58, pos := "exact.go:4170", after := #[], guard := none }) (v := ?vV1) rfl (by kernel_rfl) (by kernel_rfl) (by kernel_rfl) (fun _ _ _ h => h) (Or.inl ⟨by rfl, ?hyV1⟩) hHeld ?_
    case hyV1 => (intro w hSw; (try dsimp only at hSw); go_simp <;> with_reducible rfl)
    try simp only [Act.put, List.setIfInBounds_toArray, List.set_cons_zero, List.set_cons_succ]
    refine wpAnyH_take (i := 2) (oi := { dst := some 77, op := Op.load 72 (Operand.tmp 3), type := 72, pos := "exact.go:4170", after := #[], guard := none }) (v := ?vV2) rfl (by kernel_rfl) (by kernel_rfl) (by kernel_rfl) (fun _ _ _ h => h) (Or.inl ⟨by rfl, ?hyV2⟩) hHeld ?_
    case hyV2 => (intro w hSw; (try dsimp only at hSw); go_simp <;> with_reducible rfl)
    try simp only [Act.put, List.setIfInBounds_toArray, List.set_cons_zero, List.set_cons_succ]
    refine wpAnyH_ready (rs := [1, 5]) (by kernel_rfl) (by simp) ?_
    refine AllReadyH.cons (o := { dst := some 76, op := Op.call { callee := Callee.value (Operand.func 33), args := #[Operand.tmp 75], argTypes := #[58] }, type := 27, pos := "exact.go:4170", after := #[{ on := 0, ground := Ground.data }], guard := none }) rfl (fun K hK => ?_) ?_
    ·
      go_simp
      refine (Grp.toGroup_any n0 b0 t0 ka0 kc0 key0 a0 cap0 l0 _ (U0.out.below (grow_on B14.out ((Below.refl w14.heap.size w14).drew))) K0.out.1 (R0.out.below (grow_on B14.out ((Below.refl w14.heap.size w14).drew))) K0.out.2.1 K0.out.2.2.1).mono ?_
      rintro r wa ⟨⟨TK, TM, Tr, rfl, hG, -, hP⟩, hy⟩
      have ZA : Hid (Below w14.heap.size w14 wa) := grow_on ((Below.refl w14.heap.size w14).drew) hy
      have TA : Hid (Reads wa (some ⟨TK, 0, none⟩) key0 ∧ RdN wa (some ⟨TM, 0, none⟩) l0) := ⟨hG.key.rd, rdP hG hP⟩
      clear hG hP hy
      clear hHeld
      refine hK.out _ _ (HS.out _ (P0_14.out.grow (ZA.out)) (P1_14.out.grow (ZA.out))) (fun hHeld => ?_)
      clear hK K
      try simp only [Act.put, List.setIfInBounds_toArray, List.set_cons_zero, List.set_cons_succ]
      refine wpAnyH_ready (rs := [3, 5]) (by kernel_rfl) (by simp) ?_
      refine AllReadyH.cons (o := { dst := some 78, op := Op.call { callee := Callee.value (Operand.func 41), args := #[Operand.tmp 77], argTypes := #[72] }, type := 29, pos := "exact.go:4170", after := #[{ on := 2, ground := Ground.data }, { on := 1, ground := Ground.chain }], guard := none }) rfl (fun K hK => ?_) ?_
      ·
        go_simp
        refine (Alm.to_any a1 cap1 l1 s1 e1 n1 _ (R1.out.below (grow_on B14.out (ZA.out))) K1.out).mono ?_
        rintro r wb ⟨⟨AM, Acs, rfl, -, hk, -, hh⟩, hy⟩
        have ZB : Hid (Below w14.heap.size w14 wb) := grow_on (ZA.out) hy
        have TB : Hid (Reads wb (some ⟨TK, 0, none⟩) key0 ∧ RdN wb (some ⟨TM, 0, none⟩) l0 ∧ Reads wb (some ⟨AM, 0, none⟩) l1) := ⟨TA.out.1.below (grow_on (Below.refl _ _) hy), TA.out.2.below (grow_on (Below.refl _ _) hy), held_reads hk hh⟩
        clear hk hh hy
        clear hHeld
        refine hK.out _ _ (HS.out _ (P0_14.out.grow (ZB.out)) (P1_14.out.grow (ZB.out))) (fun hHeld => ?_)
        clear hK K
        try simp only [Act.put, List.setIfInBounds_toArray, List.set_cons_zero, List.set_cons_succ]
        refine wpAnyH_ready (rs := [4, 5]) (by kernel_rfl) (by simp) ?_
        refine AllReadyH.cons (o := { dst := some 79, op := Op.call { callee := Callee.value (Operand.func 11), args := #[Operand.tmp 76, Operand.tmp 78], argTypes := #[27, 29] }, type := 27, pos := "exact.go:4170", after := #[{ on := 1, ground := Ground.data }, { on := 3, ground := Ground.data }, { on := 3, ground := Ground.chain }], guard := none }) rfl (fun K hK => ?_) ?_
        ·
          go_simp
          refine (implJ n0 b0 t0 TK 0 _ key0 TM 0 _ l0 JL AM 0 _ (⟨l1, s1, e1, n1⟩ : PAl) HJ.out _ (TB.out.1.below (Below.refl _ _)) K0.out.1 (TB.out.2.1.below (Below.refl _ _)) K0.out.2.1 N0.out ⟨Nat.le_refl _, M0.out⟩ (TB.out.2.2.below (Below.refl _ _)) K1.out).mono ?_
          rintro r wc ⟨⟨OK, Od, OM, Of, Oc, Or, rfl, hG, hP⟩, hy⟩
          have ZC : Hid (Below w14.heap.size w14 wc) := grow_on (ZB.out) hy
          have OA : Hid (GB w14.heap.size wc OK key0 OM Of Or ∧ pals Or = JL) := ⟨hG.down (ZB.out).size, hP⟩
          clear hG hP hy
          try dsimp only
          clear hHeld
          refine hK.out _ _ (HS.out _ (P0_14.out.grow (ZC.out)) (P1_14.out.grow (ZC.out))) (fun hHeld => ?_)
          clear hK K
          try simp only [Act.put, List.setIfInBounds_toArray, List.set_cons_zero, List.set_cons_succ]
          refine wpAnyH_ready (rs := [5]) (by kernel_rfl) (by simp) ?_
          refine AllReadyH.cons (o := { dst := some 13, op := Op.alloc 27, type := 0, pos := "exact.go:4170", after := #[], guard := none }) rfl (fun K hK => ?_) AllReadyH.nil
          go_simp
          clear hHeld
          refine hK.out _ _ (HS.out _ (P0_14.out.grow (bel_alloc (ZC.out) _)) (P1_14.out.grow (bel_alloc (ZC.out) _))) (fun hHeld => ?_)
          clear hK K
          try simp only [Act.put, List.setIfInBounds_toArray, List.set_cons_zero, List.set_cons_succ]
          refine wpAnyH_ready (rs := [6]) (by kernel_rfl) (by simp) ?_
          refine AllReadyH.cons (o := { dst := none, op := Op.store 27 (Operand.tmp 13) (Operand.tmp 79), type := 0, pos := "exact.go:4170", after := #[{ on := 5, ground := Ground.data }, { on := 4, ground := Ground.data }, { on := 4, ground := Ground.chain }, { on := 0, ground := Ground.phase }, { on := 1, ground := Ground.phase }, { on := 2, ground := Ground.phase }, { on := 3, ground := Ground.phase }, { on := 4, ground := Ground.phase }, { on := 5, ground := Ground.phase }], guard := none }) rfl (fun K hK => ?_) AllReadyH.nil
          go_simp
          clear hHeld
          refine hK.out _ _ (HS.out _ (P0_14.out.grow (bel_alloc ZC.out _)) (P1_14.out.grow (bel_alloc ZC.out _))) (fun hHeld => ?_)
          clear hK K
          try simp only [Act.put, List.setIfInBounds_toArray, List.set_cons_zero, List.set_cons_succ]
          refine wpAnyH_done (by kernel_rfl) ?_ _
          go_wp2_with fail
          go_meet
          exact ⟨_, OK, Od, OM, Of, Oc, Or, rfl, Blk.new _ _ _, OA.out.1.grow (Go.Joins.below_alloc1 wc _), OA.out.2, ZC.out.size, bel_alloc ZC.out _, fun k hk he => by have := (OA.out.1.rng k hk).2; omega⟩
        refine AllReadyH.cons (o := { dst := some 13, op := Op.alloc 27, type := 0, pos := "exact.go:4170", after := #[], guard := none }) rfl (fun K hK => ?_) AllReadyH.nil
        go_simp
        clear hHeld
        refine hK.out _ _ (HS.out _ (P0_14.out.grow (bel_alloc (ZB.out) _)) (P1_14.out.grow (bel_alloc (ZB.out) _))) (fun hHeld => ?_)
        clear hK K
        try simp only [Act.put, List.setIfInBounds_toArray, List.set_cons_zero, List.set_cons_succ]
        refine wpAnyH_ready (rs := [4]) (by kernel_rfl) (by simp) ?_
        refine AllReadyH.cons (o := { dst := some 79, op := Op.call { callee := Callee.value (Operand.func 11), args := #[Operand.tmp 76, Operand.tmp 78], argTypes := #[27, 29] }, type := 27, pos := "exact.go:4170", after := #[{ on := 1, ground := Ground.data }, { on := 3, ground := Ground.data }, { on := 3, ground := Ground.chain }], guard := none }) rfl (fun K hK => ?_) AllReadyH.nil
        go_simp
        refine (implJ n0 b0 t0 TK 0 _ key0 TM 0 _ l0 JL AM 0 _ (⟨l1, s1, e1, n1⟩ : PAl) HJ.out _ (TB.out.1.below (bel_alloc (Below.refl _ _) _)) K0.out.1 (TB.out.2.1.below (bel_alloc (Below.refl _ _) _)) K0.out.2.1 N0.out ⟨Nat.le_refl _, M0.out⟩ (TB.out.2.2.below (bel_alloc (Below.refl _ _) _)) K1.out).mono ?_
        rintro r wc ⟨⟨OK, Od, OM, Of, Oc, Or, rfl, hG, hP⟩, hy⟩
        have ZC : Hid (Below w14.heap.size w14 wc) := grow_on (bel_alloc (ZB.out) _) hy
        have ON : Hid (∀ k, gblks OK OM Or k → k ≠ wb.heap.size) := fun k hk he => by have h1 := (hG.rng k hk).1; simp at h1; omega
        have OA : Hid (GB w14.heap.size wc OK key0 OM Of Or ∧ pals Or = JL) := ⟨hG.down (bel_alloc (ZB.out) _).size, hP⟩
        have NBC : Hid (Blk wc wb.heap.size #[.int .i64 0, .slice none 0 0, .int .i64 0, .int .i64 0, .slice none 0 0] 27) := (Blk.new wb _ _).grow hy
        clear hG hP hy
        try dsimp only
        clear hHeld
        refine hK.out _ _ (HS.out _ (P0_14.out.grow (ZC.out)) (P1_14.out.grow (ZC.out))) (fun hHeld => ?_)
        clear hK K
        try simp only [Act.put, List.setIfInBounds_toArray, List.set_cons_zero, List.set_cons_succ]
        refine wpAnyH_ready (rs := [6]) (by kernel_rfl) (by simp) ?_
        refine AllReadyH.cons (o := { dst := none, op := Op.store 27 (Operand.tmp 13) (Operand.tmp 79), type := 0, pos := "exact.go:4170", after := #[{ on := 5, ground := Ground.data }, { on := 4, ground := Ground.data }, { on := 4, ground := Ground.chain }, { on := 0, ground := Ground.phase }, { on := 1, ground := Ground.phase }, { on := 2, ground := Ground.phase }, { on := 3, ground := Ground.phase }, { on := 4, ground := Ground.phase }, { on := 5, ground := Ground.phase }], guard := none }) rfl (fun K hK => ?_) AllReadyH.nil
        have n0' : wc.cell? ⟨wb.heap.size, 0, none⟩ = some (.int .i64 0) := NBC.out.cell 0
        have m0' := NBC.out.frozen 0
        have n1' : wc.cell? ⟨wb.heap.size, 1, none⟩ = some (.slice none 0 0) := NBC.out.cell 1
        have m1' := NBC.out.frozen 1
        have n2' : wc.cell? ⟨wb.heap.size, 2, none⟩ = some (.int .i64 0) := NBC.out.cell 2
        have m2' := NBC.out.frozen 2
        have n3' : wc.cell? ⟨wb.heap.size, 3, none⟩ = some (.int .i64 0) := NBC.out.cell 3
        have m3' := NBC.out.frozen 3
        have n4' : wc.cell? ⟨wb.heap.size, 4, none⟩ = some (.slice none 0 0) := NBC.out.cell 4
        have m4' := NBC.out.frozen 4
        go_simp
        clear n0' m0' n1' m1' n2' m2' n3' m3' n4' m4' hHeld
        have hz : Below w14.heap.size w14 (((((wc.setCell ⟨wb.heap.size, 0, none⟩ (.int .i64 n0)).setCell ⟨wb.heap.size, 1, none⟩ (.slice (some ⟨OK, 0, none⟩) key0.length Od)).setCell ⟨wb.heap.size, 2, none⟩ (.int .i64 b0)).setCell ⟨wb.heap.size, 3, none⟩ (.int .i64 t0)).setCell ⟨wb.heap.size, 4, none⟩ (.slice (some ⟨OM, Of, none⟩) Or.length Oc)) := set5 ZC.out (ZB.out.size) _ _ _ _ _
        refine hK.out _ _ (HS.out _ (P0_14.out.grow hz) (P1_14.out.grow hz)) (fun hHeld => ?_)
        clear hK K hz
        try simp only [Act.put, List.setIfInBounds_toArray, List.set_cons_zero, List.set_cons_succ]
        refine wpAnyH_done (by kernel_rfl) ?_ _
        go_wp2_with fail
        go_meet
        exact ⟨_, OK, Od, OM, Of, Oc, Or, rfl, put5 NBC.out _ _ _ _ _, gb_set5 OA.out.1 ON.out _ _ _ _ _, OA.out.2, ZB.out.size, set5 ZC.out (ZB.out.size) _ _ _ _ _, ON.out⟩
      refine AllReadyH.cons (o := { dst := some 13, op := Op.alloc 27, type := 0, pos := "exact.go:4170", after := #[], guard := none }) rfl (fun K hK => ?_) AllReadyH.nil
      go_simp
      clear hHeld
      refine hK.out _ _ (HS.out _ (P0_14.out.grow (bel_alloc (ZA.out) _)) (P1_14.out.grow (bel_alloc (ZA.out) _))) (fun hHeld => ?_)
      clear hK K
      try simp only [Act.put, List.setIfInBounds_toArray, List.set_cons_zero, List.set_cons_succ]
      refine wpAnyH_ready (rs := [3]) (by kernel_rfl) (by simp) ?_
      refine AllReadyH.cons (o := { dst := some 78, op := Op.call { callee := Callee.value (Operand.func 41), args := #[Operand.tmp 77], argTypes := #[72] }, type := 29, pos := "exact.go:4170", after := #[{ on := 2, ground := Ground.data }, { on := 1, ground := Ground.chain }], guard := none }) rfl (fun K hK => ?_) AllReadyH.nil
      go_simp
      refine (Alm.to_any a1 cap1 l1 s1 e1 n1 _ (R1.out.below (grow_on B14.out (bel_alloc (ZA.out) _))) K1.out).mono ?_
      rintro r wb ⟨⟨AM, Acs, rfl, -, hk, -, hh⟩, hy⟩
      have ZB : Hid (Below w14.heap.size w14 wb) := grow_on (bel_alloc (ZA.out) _) hy
      have TB : Hid (Reads wb (some ⟨TK, 0, none⟩) key0 ∧ RdN wb (some ⟨TM, 0, none⟩) l0 ∧ Reads wb (some ⟨AM, 0, none⟩) l1) := ⟨TA.out.1.below (grow_on (bel_alloc (Below.refl _ _) _) hy), TA.out.2.below (grow_on (bel_alloc (Below.refl _ _) _) hy), held_reads hk hh⟩
      have NBB : Hid (Blk wb wa.heap.size #[.int .i64 0, .slice none 0 0, .int .i64 0, .int .i64 0, .slice none 0 0] 27) := (Blk.new wa _ _).grow hy
      clear hk hh hy
      clear hHeld
      refine hK.out _ _ (HS.out _ (P0_14.out.grow (ZB.out)) (P1_14.out.grow (ZB.out))) (fun hHeld => ?_)
      clear hK K
      try simp only [Act.put, List.setIfInBounds_toArray, List.set_cons_zero, List.set_cons_succ]
      refine wpAnyH_ready (rs := [4]) (by kernel_rfl) (by simp) ?_
      refine AllReadyH.cons (o := { dst := some 79, op := Op.call { callee := Callee.value (Operand.func 11), args := #[Operand.tmp 76, Operand.tmp 78], argTypes := #[27, 29] }, type := 27, pos := "exact.go:4170", after := #[{ on := 1, ground := Ground.data }, { on := 3, ground := Ground.data }, { on := 3, ground := Ground.chain }], guard := none }) rfl (fun K hK => ?_) AllReadyH.nil
      go_simp
      refine (implJ n0 b0 t0 TK 0 _ key0 TM 0 _ l0 JL AM 0 _ (⟨l1, s1, e1, n1⟩ : PAl) HJ.out _ (TB.out.1.below (Below.refl _ _)) K0.out.1 (TB.out.2.1.below (Below.refl _ _)) K0.out.2.1 N0.out ⟨Nat.le_refl _, M0.out⟩ (TB.out.2.2.below (Below.refl _ _)) K1.out).mono ?_
      rintro r wc ⟨⟨OK, Od, OM, Of, Oc, Or, rfl, hG, hP⟩, hy⟩
      have ZC : Hid (Below w14.heap.size w14 wc) := grow_on (ZB.out) hy
      have ON : Hid (∀ k, gblks OK OM Or k → k ≠ wa.heap.size) := fun k hk he => by have h1 := (hG.rng k hk).1; have h2 := NBB.out.lt; omega
      have OA : Hid (GB w14.heap.size wc OK key0 OM Of Or ∧ pals Or = JL) := ⟨hG.down (ZB.out).size, hP⟩
      have NBC : Hid (Blk wc wa.heap.size #[.int .i64 0, .slice none 0 0, .int .i64 0, .int .i64 0, .slice none 0 0] 27) := NBB.out.grow hy
      clear hG hP hy
      try dsimp only
      clear hHeld
      refine hK.out _ _ (HS.out _ (P0_14.out.grow (ZC.out)) (P1_14.out.grow (ZC.out))) (fun hHeld => ?_)
      clear hK K
      try simp only [Act.put, List.setIfInBounds_toArray, List.set_cons_zero, List.set_cons_succ]
      refine wpAnyH_ready (rs := [6]) (by kernel_rfl) (by simp) ?_
      refine AllReadyH.cons (o := { dst := none, op := Op.store 27 (Operand.tmp 13) (Operand.tmp 79), type := 0, pos := "exact.go:4170", after := #[{ on := 5, ground := Ground.data }, { on := 4, ground := Ground.data }, { on := 4, ground := Ground.chain }, { on := 0, ground := Ground.phase }, { on := 1, ground := Ground.phase }, { on := 2, ground := Ground.phase }, { on := 3, ground := Ground.phase }, { on := 4, ground := Ground.phase }, { on := 5, ground := Ground.phase }], guard := none }) rfl (fun K hK => ?_) AllReadyH.nil
      have n0' : wc.cell? ⟨wa.heap.size, 0, none⟩ = some (.int .i64 0) := NBC.out.cell 0
      have m0' := NBC.out.frozen 0
      have n1' : wc.cell? ⟨wa.heap.size, 1, none⟩ = some (.slice none 0 0) := NBC.out.cell 1
      have m1' := NBC.out.frozen 1
      have n2' : wc.cell? ⟨wa.heap.size, 2, none⟩ = some (.int .i64 0) := NBC.out.cell 2
      have m2' := NBC.out.frozen 2
      have n3' : wc.cell? ⟨wa.heap.size, 3, none⟩ = some (.int .i64 0) := NBC.out.cell 3
      have m3' := NBC.out.frozen 3
      have n4' : wc.cell? ⟨wa.heap.size, 4, none⟩ = some (.slice none 0 0) := NBC.out.cell 4
      have m4' := NBC.out.frozen 4
      go_simp
      clear n0' m0' n1' m1' n2' m2' n3' m3' n4' m4' hHeld
      have hz : Below w14.heap.size w14 (((((wc.setCell ⟨wa.heap.size, 0, none⟩ (.int .i64 n0)).setCell ⟨wa.heap.size, 1, none⟩ (.slice (some ⟨OK, 0, none⟩) key0.length Od)).setCell ⟨wa.heap.size, 2, none⟩ (.int .i64 b0)).setCell ⟨wa.heap.size, 3, none⟩ (.int .i64 t0)).setCell ⟨wa.heap.size, 4, none⟩ (.slice (some ⟨OM, Of, none⟩) Or.length Oc)) := set5 ZC.out (ZA.out.size) _ _ _ _ _
      refine hK.out _ _ (HS.out _ (P0_14.out.grow hz) (P1_14.out.grow hz)) (fun hHeld => ?_)
      clear hK K hz
      try simp only [Act.put, List.setIfInBounds_toArray, List.set_cons_zero, List.set_cons_succ]
      refine wpAnyH_done (by kernel_rfl) ?_ _
      go_wp2_with fail
      go_meet
      exact ⟨_, OK, Od, OM, Of, Oc, Or, rfl, put5 NBC.out _ _ _ _ _, gb_set5 OA.out.1 ON.out _ _ _ _ _, OA.out.2, ZA.out.size, set5 ZC.out (ZA.out.size) _ _ _ _ _, ON.out⟩
    refine AllReadyH.cons (o := { dst := some 13, op := Op.alloc 27, type := 0, pos := "exact.go:4170", after := #[], guard := none }) rfl (fun K hK => ?_) AllReadyH.nil
    go_simp
    clear hHeld
    refine hK.out _ _ (HS.out _ (P0_14.out.grow (bel_alloc ((Below.refl w14.heap.size w14).drew) _)) (P1_14.out.grow (bel_alloc ((Below.refl w14.heap.size w14).drew) _))) (fun hHeld => ?_)
    clear hK K
    try simp only [Act.put, List.setIfInBounds_toArray, List.set_cons_zero, List.set_cons_succ]
    refine wpAnyH_ready (rs := [1]) (by kernel_rfl) (by simp) ?_
    refine AllReadyH.cons (o := { dst := some 76, op := Op.call { callee := Callee.value (Operand.func 33), args := #[Operand.tmp 75], argTypes := #[58] }, type := 27, pos := "exact.go:4170", after := #[{ on := 0, ground := Ground.data }], guard := none }) rfl (fun K hK => ?_) AllReadyH.nil
    go_simp
    refine (Grp.toGroup_any n0 b0 t0 ka0 kc0 key0 a0 cap0 l0 _ (U0.out.below (grow_on B14.out (bel_alloc ((Below.refl w14.heap.size w14).drew) _))) K0.out.1 (R0.out.below (grow_on B14.out (bel_alloc ((Below.refl w14.heap.size w14).drew) _))) K0.out.2.1 K0.out.2.2.1).mono ?_
    rintro r wa ⟨⟨TK, TM, Tr, rfl, hG, -, hP⟩, hy⟩
    have ZA : Hid (Below w14.heap.size w14 wa) := grow_on (bel_alloc ((Below.refl w14.heap.size w14).drew) _) hy
    have TA : Hid (Reads wa (some ⟨TK, 0, none⟩) key0 ∧ RdN wa (some ⟨TM, 0, none⟩) l0) := ⟨hG.key.rd, rdP hG hP⟩
    have NBA : Hid (Blk wa w14.heap.size #[.int .i64 0, .slice none 0 0, .int .i64 0, .int .i64 0, .slice none 0 0] 27) := (Blk.new w14.drew _ _).grow hy
    clear hG hP hy
    clear hHeld
    refine hK.out _ _ (HS.out _ (P0_14.out.grow (ZA.out)) (P1_14.out.grow (ZA.out))) (fun hHeld => ?_)
    clear hK K
    try simp only [Act.put, List.setIfInBounds_toArray, List.set_cons_zero, List.set_cons_succ]
    refine wpAnyH_ready (rs := [3]) (by kernel_rfl) (by simp) ?_
    refine AllReadyH.cons (o := { dst := some 78, op := Op.call { callee := Callee.value (Operand.func 41), args := #[Operand.tmp 77], argTypes := #[72] }, type := 29, pos := "exact.go:4170", after := #[{ on := 2, ground := Ground.data }, { on := 1, ground := Ground.chain }], guard := none }) rfl (fun K hK => ?_) AllReadyH.nil
    go_simp
    refine (Alm.to_any a1 cap1 l1 s1 e1 n1 _ (R1.out.below (grow_on B14.out (ZA.out))) K1.out).mono ?_
    rintro r wb ⟨⟨AM, Acs, rfl, -, hk, -, hh⟩, hy⟩
    have ZB : Hid (Below w14.heap.size w14 wb) := grow_on (ZA.out) hy
    have TB : Hid (Reads wb (some ⟨TK, 0, none⟩) key0 ∧ RdN wb (some ⟨TM, 0, none⟩) l0 ∧ Reads wb (some ⟨AM, 0, none⟩) l1) := ⟨TA.out.1.below (grow_on (Below.refl _ _) hy), TA.out.2.below (grow_on (Below.refl _ _) hy), held_reads hk hh⟩
    have NBB : Hid (Blk wb w14.heap.size #[.int .i64 0, .slice none 0 0, .int .i64 0, .int .i64 0, .slice none 0 0] 27) := NBA.out.grow hy
    clear hk hh hy
    clear hHeld
    refine hK.out _ _ (HS.out _ (P0_14.out.grow (ZB.out)) (P1_14.out.grow (ZB.out))) (fun hHeld => ?_)
    clear hK K
    try simp only [Act.put, List.setIfInBounds_toArray, List.set_cons_zero, List.set_cons_succ]
    refine wpAnyH_ready (rs := [4]) (by kernel_rfl) (by simp) ?_
    refine AllReadyH.cons (o := { dst := some 79, op := Op.call { callee := Callee.value (Operand.func 11), args := #[Operand.tmp 76, Operand.tmp 78], argTypes := #[27, 29] }, type := 27, pos := "exact.go:4170", after := #[{ on := 1, ground := Ground.data }, { on := 3, ground := Ground.data }, { on := 3, ground := Ground.chain }], guard := none }) rfl (fun K hK => ?_) AllReadyH.nil
    go_simp
    refine (implJ n0 b0 t0 TK 0 _ key0 TM 0 _ l0 JL AM 0 _ (⟨l1, s1, e1, n1⟩ : PAl) HJ.out _ (TB.out.1.below (Below.refl _ _)) K0.out.1 (TB.out.2.1.below (Below.refl _ _)) K0.out.2.1 N0.out ⟨Nat.le_refl _, M0.out⟩ (TB.out.2.2.below (Below.refl _ _)) K1.out).mono ?_
    rintro r wc ⟨⟨OK, Od, OM, Of, Oc, Or, rfl, hG, hP⟩, hy⟩
    have ZC : Hid (Below w14.heap.size w14 wc) := grow_on (ZB.out) hy
    have ON : Hid (∀ k, gblks OK OM Or k → k ≠ w14.heap.size) := fun k hk he => by have h1 := (hG.rng k hk).1; have h2 := NBB.out.lt; omega
    have OA : Hid (GB w14.heap.size wc OK key0 OM Of Or ∧ pals Or = JL) := ⟨hG.down (ZB.out).size, hP⟩
    have NBC : Hid (Blk wc w14.heap.size #[.int .i64 0, .slice none 0 0, .int .i64 0, .int .i64 0, .slice none 0 0] 27) := NBB.out.grow hy
    clear hG hP hy
    try dsimp only
    clear hHeld
    refine hK.out _ _ (HS.out _ (P0_14.out.grow (ZC.out)) (P1_14.out.grow (ZC.out))) (fun hHeld => ?_)
    clear hK K
    try simp only [Act.put, List.setIfInBounds_toArray, List.set_cons_zero, List.set_cons_succ]
    refine wpAnyH_ready (rs := [6]) (by kernel_rfl) (by simp) ?_
    refine AllReadyH.cons (o := { dst := none, op := Op.store 27 (Operand.tmp 13) (Operand.tmp 79), type := 0, pos := "exact.go:4170", after := #[{ on := 5, ground := Ground.data }, { on := 4, ground := Ground.data }, { on := 4, ground := Ground.chain }, { on := 0, ground := Ground.phase }, { on := 1, ground := Ground.phase }, { on := 2, ground := Ground.phase }, { on := 3, ground := Ground.phase }, { on := 4, ground := Ground.phase }, { on := 5, ground := Ground.phase }], guard := none }) rfl (fun K hK => ?_) AllReadyH.nil
    have n0' : wc.cell? ⟨w14.heap.size, 0, none⟩ = some (.int .i64 0) := NBC.out.cell 0
    have m0' := NBC.out.frozen 0
    have n1' : wc.cell? ⟨w14.heap.size, 1, none⟩ = some (.slice none 0 0) := NBC.out.cell 1
    have m1' := NBC.out.frozen 1
    have n2' : wc.cell? ⟨w14.heap.size, 2, none⟩ = some (.int .i64 0) := NBC.out.cell 2
    have m2' := NBC.out.frozen 2
    have n3' : wc.cell? ⟨w14.heap.size, 3, none⟩ = some (.int .i64 0) := NBC.out.cell 3
    have m3' := NBC.out.frozen 3
    have n4' : wc.cell? ⟨w14.heap.size, 4, none⟩ = some (.slice none 0 0) := NBC.out.cell 4
    have m4' := NBC.out.frozen 4
    go_simp
    clear n0' m0' n1' m1' n2' m2' n3' m3' n4' m4' hHeld
    have hz : Below w14.heap.size w14 (((((wc.setCell ⟨w14.heap.size, 0, none⟩ (.int .i64 n0)).setCell ⟨w14.heap.size, 1, none⟩ (.slice (some ⟨OK, 0, none⟩) key0.length Od)).setCell ⟨w14.heap.size, 2, none⟩ (.int .i64 b0)).setCell ⟨w14.heap.size, 3, none⟩ (.int .i64 t0)).setCell ⟨w14.heap.size, 4, none⟩ (.slice (some ⟨OM, Of, none⟩) Or.length Oc)) := set5 ZC.out (Nat.le_refl _) _ _ _ _ _
    refine hK.out _ _ (HS.out _ (P0_14.out.grow hz) (P1_14.out.grow hz)) (fun hHeld => ?_)
    clear hK K hz
    try simp only [Act.put, List.setIfInBounds_toArray, List.set_cons_zero, List.set_cons_succ]
    refine wpAnyH_done (by kernel_rfl) ?_ _
    go_wp2_with fail
    go_meet
    exact ⟨_, OK, Od, OM, Of, Oc, Or, rfl, put5 NBC.out _ _ _ _ _, gb_set5 OA.out.1 ON.out _ _ _ _ _, OA.out.2, Nat.le_refl _, set5 ZC.out (Nat.le_refl _) _ _ _ _ _, ON.out⟩
  case rest =>
  obtain ⟨VN, VK, Vd, VM, Vf, Vc, Vr, rfl, hW1, hG, hP, hN, hb, -⟩ := hcut
  obtain ⟨w15, hwc⟩ : ∃ x, x = wc := ⟨_, rfl⟩
  subst hwc
  have V0_15 : Hid (Blk w15 VN #[.int .i64 n0, .slice (some ⟨VK, 0, none⟩) key0.length Vd, .int .i64 b0, .int .i64 t0, .slice (some ⟨VM, Vf, none⟩) Vr.length Vc] 27) := hW1
  have V_15 : Hid (GB w14.heap.size w15 VK key0 VM Vf Vr) := hG
  have VP : Hid (pals Vr = JL) := hP
  have VR : Hid (∀ k, gblks VK VM Vr k → w14.heap.size ≤ k ∧ k < w15.heap.size) := hG.rng
  have U_V : Hid (w14.heap.size ≤ VN ∧ VN < w15.heap.size) := ⟨hN, hW1.lt⟩
  have B15 : Hid (Below w.heap.size w w15) := grow_on B14.out hb
  have Z15 : Hid (w14.heap.size ≤ w15.heap.size) := hb.size
  have P0_15 : Hid (Blk w15 w.heap.size #[.int .i64 n0, .slice ka0 key0.length kc0, .int .i64 b0, .int .i64 t0, .slice a0 l0.length cap0] 58) := P0_14.out.grow hb
  have P1_15 : Hid (Blk w15 (w.heap.size + 1) #[.slice a1 l1.length cap1, .int .i64 s1, .int .i64 e1, .string n1] 72) := P1_14.out.grow hb
  have W0_15 : Hid (Blk w15 WN #[.int .i64 n0, .slice (some ⟨WK, 0, none⟩) key0.length Wd, .int .i64 b0, .int .i64 t0, .slice (some ⟨WM, Wf, none⟩) Wr.length Wc] 27) := W0_14.out.grow hb
  have W_15 : Hid (GB w2.heap.size w15 WK key0 WM Wf Wr) := W_14.out.grow hb
  have G0_15 : Hid (Blk w15 w6.heap.size #[.int .i64 n0, .slice (some ⟨GK, 0, none⟩) key0.length Gd, .int .i64 b0, .int .i64 t0, .slice (some ⟨GM, Gf, none⟩) Gr.length Gc] 27) := G0_14.out.grow hb
  have H_15 : Hid (Grp.GM w15 GK key0.length GM Gf Gr 1) := H_14.out.grow hb
  clear hb HS hW1 hG hP hN
  try clear hq1
  have cP00 : w15.cell? ⟨w.heap.size, 0, none⟩ = some (.int .i64 n0) := (P0_15.out).cell 0
  have cP01 : w15.cell? ⟨w.heap.size, 1, none⟩ = some (.slice ka0 key0.length kc0) := (P0_15.out).cell 1
  have cP02 : w15.cell? ⟨w.heap.size, 2, none⟩ = some (.int .i64 b0) := (P0_15.out).cell 2
  have cP03 : w15.cell? ⟨w.heap.size, 3, none⟩ = some (.int .i64 t0) := (P0_15.out).cell 3
  have cP04 : w15.cell? ⟨w.heap.size, 4, none⟩ = some (.slice a0 l0.length cap0) := (P0_15.out).cell 4
  have cP10 : w15.cell? ⟨(w.heap.size + 1), 0, none⟩ = some (.slice a1 l1.length cap1) := (P1_15.out).cell 0
  have cP11 : w15.cell? ⟨(w.heap.size + 1), 1, none⟩ = some (.int .i64 s1) := (P1_15.out).cell 1
  have cP12 : w15.cell? ⟨(w.heap.size + 1), 2, none⟩ = some (.int .i64 e1) := (P1_15.out).cell 2
  have cP13 : w15.cell? ⟨(w.heap.size + 1), 3, none⟩ = some (.string n1) := (P1_15.out).cell 3
  have cW00 : w15.cell? ⟨WN, 0, none⟩ = some (.int .i64 n0) := (W0_15.out).cell 0
  have cW01 : w15.cell? ⟨WN, 1, none⟩ = some (.slice (some ⟨WK, 0, none⟩) key0.length Wd) := (W0_15.out).cell 1
  have cW02 : w15.cell? ⟨WN, 2, none⟩ = some (.int .i64 b0) := (W0_15.out).cell 2
  have cW03 : w15.cell? ⟨WN, 3, none⟩ = some (.int .i64 t0) := (W0_15.out).cell 3
  have cW04 : w15.cell? ⟨WN, 4, none⟩ = some (.slice (some ⟨WM, Wf, none⟩) Wr.length Wc) := (W0_15.out).cell 4
  have cG00 : w15.cell? ⟨w6.heap.size, 0, none⟩ = some (.int .i64 n0) := (G0_15.out).cell 0
  have cG01 : w15.cell? ⟨w6.heap.size, 1, none⟩ = some (.slice (some ⟨GK, 0, none⟩) key0.length Gd) := (G0_15.out).cell 1
  have cG02 : w15.cell? ⟨w6.heap.size, 2, none⟩ = some (.int .i64 b0) := (G0_15.out).cell 2
  have cG03 : w15.cell? ⟨w6.heap.size, 3, none⟩ = some (.int .i64 t0) := (G0_15.out).cell 3
  have cG04 : w15.cell? ⟨w6.heap.size, 4, none⟩ = some (.slice (some ⟨GM, Gf, none⟩) Gr.length Gc) := (G0_15.out).cell 4
  have cV00 : w15.cell? ⟨VN, 0, none⟩ = some (.int .i64 n0) := (V0_15.out).cell 0
  have cV01 : w15.cell? ⟨VN, 1, none⟩ = some (.slice (some ⟨VK, 0, none⟩) key0.length Vd) := (V0_15.out).cell 1
  have cV02 : w15.cell? ⟨VN, 2, none⟩ = some (.int .i64 b0) := (V0_15.out).cell 2
  have cV03 : w15.cell? ⟨VN, 3, none⟩ = some (.int .i64 t0) := (V0_15.out).cell 3
  have cV04 : w15.cell? ⟨VN, 4, none⟩ = some (.slice (some ⟨VM, Vf, none⟩) Vr.length Vc) := (V0_15.out).cell 4
  go_wp2_with fail
  refine (eqG_any n0 b0 t0 _ _ _ _ key0 _ _ _ _ Vr Wr JL _ (V_15.out.key.rd) (W_15.out.key.rd) Q0k.out.1 (V_15.out.row.rd) (W_15.out.row.rd) VP.out WP.out PF.out.1 PF.out.2).mono ?_
  rintro e w16 ⟨rfl, hb⟩
  have B16 : Hid (Below w.heap.size w w16) := grow_on B15.out hb
  have Z16 : Hid (w15.heap.size ≤ w16.heap.size) := hb.size
  have P0_16 : Hid (Blk w16 w.heap.size #[.int .i64 n0, .slice ka0 key0.length kc0, .int .i64 b0, .int .i64 t0, .slice a0 l0.length cap0] 58) := P0_15.out.grow hb
  have P1_16 : Hid (Blk w16 (w.heap.size + 1) #[.slice a1 l1.length cap1, .int .i64 s1, .int .i64 e1, .string n1] 72) := P1_15.out.grow hb
  have W0_16 : Hid (Blk w16 WN #[.int .i64 n0, .slice (some ⟨WK, 0, none⟩) key0.length Wd, .int .i64 b0, .int .i64 t0, .slice (some ⟨WM, Wf, none⟩) Wr.length Wc] 27) := W0_15.out.grow hb
  have W_16 : Hid (GB w2.heap.size w16 WK key0 WM Wf Wr) := W_15.out.grow hb
  have G0_16 : Hid (Blk w16 w6.heap.size #[.int .i64 n0, .slice (some ⟨GK, 0, none⟩) key0.length Gd, .int .i64 b0, .int .i64 t0, .slice (some ⟨GM, Gf, none⟩) Gr.length Gc] 27) := G0_15.out.grow hb
  have H_16 : Hid (Grp.GM w16 GK key0.length GM Gf Gr 1) := H_15.out.grow hb
  have V0_16 : Hid (Blk w16 VN #[.int .i64 n0, .slice (some ⟨VK, 0, none⟩) key0.length Vd, .int .i64 b0, .int .i64 t0, .slice (some ⟨VM, Vf, none⟩) Vr.length Vc] 27) := V0_15.out.grow hb
  have V_16 : Hid (GB w14.heap.size w16 VK key0 VM Vf Vr) := V_15.out.grow hb
  clear hb cP00 cP01 cP02 cP03 cP04 cP10 cP11 cP12 cP13 cW00 cW01 cW02 cW03 cW04 cG00 cG01 cG02 cG03 cG04 cV00 cV01 cV02 cV03 cV04
  have hH1 : Hid (Calls Try.prog 45 #[.agg #[.int .i64 n0, .slice (some ⟨GK, 0, none⟩) key0.length Gd, .int .i64 b0, .int .i64 t0, .slice (some ⟨GM, Gf, none⟩) Gr.length Gc], .int .i64 1] w16 fun e w' => e = .returned (.int .i64 (z1 : Int)) ∧ Below w16.heap.size w16 w') := (Grp.heldGroup_any n0 b0 t0 GK Gd key0 GM Gf Gc 1 Gr w16 H_16.out GL.out K0.out.1 GS.out.2 (by omega) GS.out.1).mono (fun e w' h => ⟨h.1.trans (Mark.retI (by have := HZ1.out; omega)), h.2⟩)
  have hq1 : ¬ (z1 : Int) < 0 := by omega
  have cP00 : w16.cell? ⟨w.heap.size, 0, none⟩ = some (.int .i64 n0) := (P0_16.out).cell 0
  have cP01 : w16.cell? ⟨w.heap.size, 1, none⟩ = some (.slice ka0 key0.length kc0) := (P0_16.out).cell 1
  have cP02 : w16.cell? ⟨w.heap.size, 2, none⟩ = some (.int .i64 b0) := (P0_16.out).cell 2
  have cP03 : w16.cell? ⟨w.heap.size, 3, none⟩ = some (.int .i64 t0) := (P0_16.out).cell 3
  have cP04 : w16.cell? ⟨w.heap.size, 4, none⟩ = some (.slice a0 l0.length cap0) := (P0_16.out).cell 4
  have cP10 : w16.cell? ⟨(w.heap.size + 1), 0, none⟩ = some (.slice a1 l1.length cap1) := (P1_16.out).cell 0
  have cP11 : w16.cell? ⟨(w.heap.size + 1), 1, none⟩ = some (.int .i64 s1) := (P1_16.out).cell 1
  have cP12 : w16.cell? ⟨(w.heap.size + 1), 2, none⟩ = some (.int .i64 e1) := (P1_16.out).cell 2
  have cP13 : w16.cell? ⟨(w.heap.size + 1), 3, none⟩ = some (.string n1) := (P1_16.out).cell 3
  have cW00 : w16.cell? ⟨WN, 0, none⟩ = some (.int .i64 n0) := (W0_16.out).cell 0
  have cW01 : w16.cell? ⟨WN, 1, none⟩ = some (.slice (some ⟨WK, 0, none⟩) key0.length Wd) := (W0_16.out).cell 1
  have cW02 : w16.cell? ⟨WN, 2, none⟩ = some (.int .i64 b0) := (W0_16.out).cell 2
  have cW03 : w16.cell? ⟨WN, 3, none⟩ = some (.int .i64 t0) := (W0_16.out).cell 3
  have cW04 : w16.cell? ⟨WN, 4, none⟩ = some (.slice (some ⟨WM, Wf, none⟩) Wr.length Wc) := (W0_16.out).cell 4
  have cG00 : w16.cell? ⟨w6.heap.size, 0, none⟩ = some (.int .i64 n0) := (G0_16.out).cell 0
  have cG01 : w16.cell? ⟨w6.heap.size, 1, none⟩ = some (.slice (some ⟨GK, 0, none⟩) key0.length Gd) := (G0_16.out).cell 1
  have cG02 : w16.cell? ⟨w6.heap.size, 2, none⟩ = some (.int .i64 b0) := (G0_16.out).cell 2
  have cG03 : w16.cell? ⟨w6.heap.size, 3, none⟩ = some (.int .i64 t0) := (G0_16.out).cell 3
  have cG04 : w16.cell? ⟨w6.heap.size, 4, none⟩ = some (.slice (some ⟨GM, Gf, none⟩) Gr.length Gc) := (G0_16.out).cell 4
  have cV00 : w16.cell? ⟨VN, 0, none⟩ = some (.int .i64 n0) := (V0_16.out).cell 0
  have cV01 : w16.cell? ⟨VN, 1, none⟩ = some (.slice (some ⟨VK, 0, none⟩) key0.length Vd) := (V0_16.out).cell 1
  have cV02 : w16.cell? ⟨VN, 2, none⟩ = some (.int .i64 b0) := (V0_16.out).cell 2
  have cV03 : w16.cell? ⟨VN, 3, none⟩ = some (.int .i64 t0) := (V0_16.out).cell 3
  have cV04 : w16.cell? ⟨VN, 4, none⟩ = some (.slice (some ⟨VM, Vf, none⟩) Vr.length Vc) := (V0_16.out).cell 4
  go_wp2_with fail
  refine (hH1.out).mono ?_
  rintro e w17 ⟨rfl, hb⟩
  have B17 : Hid (Below w.heap.size w w17) := grow_on B16.out hb
  have Z17 : Hid (w16.heap.size ≤ w17.heap.size) := hb.size
  have P0_17 : Hid (Blk w17 w.heap.size #[.int .i64 n0, .slice ka0 key0.length kc0, .int .i64 b0, .int .i64 t0, .slice a0 l0.length cap0] 58) := P0_16.out.grow hb
  have P1_17 : Hid (Blk w17 (w.heap.size + 1) #[.slice a1 l1.length cap1, .int .i64 s1, .int .i64 e1, .string n1] 72) := P1_16.out.grow hb
  have W0_17 : Hid (Blk w17 WN #[.int .i64 n0, .slice (some ⟨WK, 0, none⟩) key0.length Wd, .int .i64 b0, .int .i64 t0, .slice (some ⟨WM, Wf, none⟩) Wr.length Wc] 27) := W0_16.out.grow hb
  have W_17 : Hid (GB w2.heap.size w17 WK key0 WM Wf Wr) := W_16.out.grow hb
  have G0_17 : Hid (Blk w17 w6.heap.size #[.int .i64 n0, .slice (some ⟨GK, 0, none⟩) key0.length Gd, .int .i64 b0, .int .i64 t0, .slice (some ⟨GM, Gf, none⟩) Gr.length Gc] 27) := G0_16.out.grow hb
  have H_17 : Hid (Grp.GM w17 GK key0.length GM Gf Gr 1) := H_16.out.grow hb
  have V0_17 : Hid (Blk w17 VN #[.int .i64 n0, .slice (some ⟨VK, 0, none⟩) key0.length Vd, .int .i64 b0, .int .i64 t0, .slice (some ⟨VM, Vf, none⟩) Vr.length Vc] 27) := V0_16.out.grow hb
  have V_17 : Hid (GB w14.heap.size w17 VK key0 VM Vf Vr) := V_16.out.grow hb
  clear hb cP00 cP01 cP02 cP03 cP04 cP10 cP11 cP12 cP13 cW00 cW01 cW02 cW03 cW04 cG00 cG01 cG02 cG03 cG04 cV00 cV01 cV02 cV03 cV04 hH1
  have cP00 : w17.cell? ⟨w.heap.size, 0, none⟩ = some (.int .i64 n0) := (P0_17.out).cell 0
  have cP01 : w17.cell? ⟨w.heap.size, 1, none⟩ = some (.slice ka0 key0.length kc0) := (P0_17.out).cell 1
  have cP02 : w17.cell? ⟨w.heap.size, 2, none⟩ = some (.int .i64 b0) := (P0_17.out).cell 2
  have cP03 : w17.cell? ⟨w.heap.size, 3, none⟩ = some (.int .i64 t0) := (P0_17.out).cell 3
  have cP04 : w17.cell? ⟨w.heap.size, 4, none⟩ = some (.slice a0 l0.length cap0) := (P0_17.out).cell 4
  have cP10 : w17.cell? ⟨(w.heap.size + 1), 0, none⟩ = some (.slice a1 l1.length cap1) := (P1_17.out).cell 0
  have cP11 : w17.cell? ⟨(w.heap.size + 1), 1, none⟩ = some (.int .i64 s1) := (P1_17.out).cell 1
  have cP12 : w17.cell? ⟨(w.heap.size + 1), 2, none⟩ = some (.int .i64 e1) := (P1_17.out).cell 2
  have cP13 : w17.cell? ⟨(w.heap.size + 1), 3, none⟩ = some (.string n1) := (P1_17.out).cell 3
  have cW00 : w17.cell? ⟨WN, 0, none⟩ = some (.int .i64 n0) := (W0_17.out).cell 0
  have cW01 : w17.cell? ⟨WN, 1, none⟩ = some (.slice (some ⟨WK, 0, none⟩) key0.length Wd) := (W0_17.out).cell 1
  have cW02 : w17.cell? ⟨WN, 2, none⟩ = some (.int .i64 b0) := (W0_17.out).cell 2
  have cW03 : w17.cell? ⟨WN, 3, none⟩ = some (.int .i64 t0) := (W0_17.out).cell 3
  have cW04 : w17.cell? ⟨WN, 4, none⟩ = some (.slice (some ⟨WM, Wf, none⟩) Wr.length Wc) := (W0_17.out).cell 4
  have cG00 : w17.cell? ⟨w6.heap.size, 0, none⟩ = some (.int .i64 n0) := (G0_17.out).cell 0
  have cG01 : w17.cell? ⟨w6.heap.size, 1, none⟩ = some (.slice (some ⟨GK, 0, none⟩) key0.length Gd) := (G0_17.out).cell 1
  have cG02 : w17.cell? ⟨w6.heap.size, 2, none⟩ = some (.int .i64 b0) := (G0_17.out).cell 2
  have cG03 : w17.cell? ⟨w6.heap.size, 3, none⟩ = some (.int .i64 t0) := (G0_17.out).cell 3
  have cG04 : w17.cell? ⟨w6.heap.size, 4, none⟩ = some (.slice (some ⟨GM, Gf, none⟩) Gr.length Gc) := (G0_17.out).cell 4
  have cV00 : w17.cell? ⟨VN, 0, none⟩ = some (.int .i64 n0) := (V0_17.out).cell 0
  have cV01 : w17.cell? ⟨VN, 1, none⟩ = some (.slice (some ⟨VK, 0, none⟩) key0.length Vd) := (V0_17.out).cell 1
  have cV02 : w17.cell? ⟨VN, 2, none⟩ = some (.int .i64 b0) := (V0_17.out).cell 2
  have cV03 : w17.cell? ⟨VN, 3, none⟩ = some (.int .i64 t0) := (V0_17.out).cell 3
  have cV04 : w17.cell? ⟨VN, 4, none⟩ = some (.slice (some ⟨VM, Vf, none⟩) Vr.length Vc) := (V0_17.out).cell 4
  go_wp2
  go_ret
  exact ⟨rfl, B17.out⟩
theorem own : ownKnob Try.prog.godebug = none := by kernel_rfl
theorem laidOut : laidOutB Try.prog = true := by kernel_rfl
set_option maxRecDepth 100000 in
theorem lifted (os : Os) (started : os.Started) (H : Type) (enc : TypeId × Value → H) :
    ReturnsInHanded {} Try.checked os 7 .any (Rows.fnExactJoinInSpec.pre6 enc Try.prog Try.f7 Rows.fnExactJoinInRow.domain false) (Rows.fnExactJoinInSpec.post enc Try.prog Try.f7 false true false false) := by
  refine returnsInHanded_of_change (C := Try.checked) own started (by kernel_rfl) Try.func7
    (ChangeSpec.witness6 (enc := enc) (C := Try.checked) false ⟨#[], #[.agg #[.int .i64 0, .slice none 0 0, .int .i64 0, .int .i64 0, .slice none 0 0], .agg #[.slice none 0 0, .int .i64 0, .int .i64 0, .string ⟨#[]⟩]], []⟩ 8 (by kernel_rfl) (by kernel_rfl) (by kernel_rfl) (by kernel_rfl)) ?_
  intro W base args ds gs before hval0 hW hcnd _
  have hval : ∀ (j : Nat) t v, Try.f7.params[j]? = some t → args[j]? = some v → Value.okWide Try.prog W .any base t v := hval0
  have hW' := hW
  obtain ⟨p, q, hA0, hV, rfl, hfz, hnd⟩ := hW
  have hA : DataW.TrodAll enc Try.prog W 0 (fun _ => true) true Try.f7.params.toList args.toList ds p := hA0
  rw [Try.params7] at hA hval
  obtain ⟨v0, vs0, d0, ds0, p0, q0, hargs, rfl, rfl, h0, r0⟩ := trodAll_cons hA
  obtain ⟨v1, vs1, d1, ds1, p1, q1, rfl, rfl, rfl, h1, r1⟩ := trodAll_cons r0
  obtain ⟨rfl, rfl, rfl⟩ := trodAll_nil r1
  obtain rfl : args = #[v0, v1] := by cases args; simp_all
  obtain ⟨rfl, rfl⟩ := trodVars_none hV
  have k0 := h0
  have lt0 : ∀ x ∈ p0, x.block < W.heap.size := by obtain ⟨m, hm⟩ := k0; exact DataW.trod_lt m _ _ _ hm
  obtain ⟨n0, b0, t0, ka0, kc0, key0, a0, cap0, l0, rfl, u0, q0, y0, w0, m0, z0, xn0, xb0, xt0⟩ := Go.Proofs.Ytekcmpjjfnijmaa.Grp.open_group (hval 0 58 v0 rfl rfl) h0
  have k1 := h1
  have lt1 : ∀ x ∈ p1, x.block < W.heap.size := by obtain ⟨m, hm⟩ := k1; exact DataW.trod_lt m _ _ _ hm
  obtain ⟨a1, cap1, l1, s1, e1, n1, rfl, w1⟩ := Go.Proofs.Ytekcmpjjfnijmaa.Alm.open_alarm (hval 1 72 v1 rfl rfl) h1
  clear hA0 hval0
  refine (walk n0 b0 t0 ka0 kc0 key0 a0 cap0 l0 a1 cap1 l1 s1 e1 n1 W u0 q0 y0 w0 m0 z0 w1).mono fun e W' ⟨he, bel⟩ => ?_
  subst he
  exact ⟨_, rfl, _, _, _, [], _, [], hW', trodAll_mk1 (shut_bool Try.underlying4 _), (trodAll_cons_mk (Below.trod laidOut (by kernel_rfl) (of_decide_eq_true (by kernel_rfl)) k0 bel lt0) (trodAll_cons_mk (Below.trod laidOut (by kernel_rfl) (of_decide_eq_true (by kernel_rfl)) k1 bel lt1) trodAll_mk0)), rfl, bel.frame _, fun h => by cases h⟩

theorem over : Rows.fnExactJoinInRow.holds Try.pinned (OpenSpec.ofChange Rows.fnExactJoinInSpec) :=
  OpenClaim.holds_of_wide 7 Try.f7 rfl rfl rfl rfl rfl rfl rfl ⟨rfl, rfl, rfl, rfl, rfl⟩ rfl rfl rfl rfl rfl (by kernel_rfl) Try.func7 (by kernel_rfl)
    (of_decide_eq_true (by kernel_rfl)) (by unfold Func.isWrapper; first | (rw [if_pos (by decide +kernel)]; kernel_rfl) | (rw [if_neg (by decide +kernel)]; exact ⟨rfl, rfl⟩))
    (fun os started H enc _ => lifted os started H enc)

end Go.Proofs.Ytekcmpjjfnijmaa.FnExactJoinIn
namespace Go.Proofs.Ytekcmpjjfnijmaa
theorem fnExactJoinIn_holds : Rows.FnExactJoinInSaid := FnExactJoinIn.over
#print axioms fnExactJoinIn_holds
end Go.Proofs.Ytekcmpjjfnijmaa
