/-
  PROVED: at every slice of parts and every alarm impl.PutAlarm answers as spec.PutAlarm, leaves them as they were, keeps nothing of them, and its answer lies in memory of its own, so the law laws.FnExactPutAlarm returns true, whatever its arguments. No condition.
-/
import Derived.Test.YtooninmicfcfoaaGreatRows
import Derived.WalkKit
import Derived.ProofKit
import Derived.OpenShut
import Derived.ShutString
import Derived.ChangeOld
import Derived.Below
import Derived.WalkLawsBesides
import Derived.WalkSpells
import Derived.Test.YtooninmicfcfoaaGreatQStsP
import Derived.Test.YtooninmicfcfoaaGreatQStsM
import Derived.Deep.RegionHeld3
set_option linter.unusedVariables false
namespace Go.Proofs.YtooninmicfcfoaaGreat.FnExactPutAlarm
open Go.ChangeShapes Go.WideShapes Go.ChangeAt Go.RowKit
open Go.ChangeMaps (open_string shut_string)

open Labs LabS Over Blk Alms Rws ChnC ChnK Chs Prt
open Alm (AlIn)
open LabT (held_reads)
open PrtM (MC blksC blksC_low blksC_high sumM sumM_chs)
theorem len_of {rs : List ARow} {P : List PAl} (h : pals rs = P) : rs.length = P.length := by rw [← pals_len, h]
theorem lenc_of {cs : List CRow} {C : List PCh} (h : chs cs = C) : cs.length = C.length := by rw [← chs_len, h]
theorem eqA_any (M M' c c' lo lo' d d' : Nat) (rs rs' : List ARow) (P : List PAl) (w : World) (h : AB lo w M d rs) (h' : AB lo' w M' d' rs') (hp : pals rs = P) (hp' : pals rs' = P) (hl : P.length ≤ maxLen) (hz : FitsP P) :
    Calls Tryz.prog 192 #[.slice (some ⟨M, 0, none⟩) rs.length c, .slice (some ⟨M', 0, none⟩) rs'.length c'] w fun e w' => e = .returned (.bool true) ∧ Below w.heap.size w w' := by
  have h1 := h.rd
  have h2 := h'.rd
  rw [hp] at h1
  rw [hp'] at h2
  rw [len_of hp, len_of hp']
  exact Alms.eq_any _ _ c c' P w h1.rd h2.rd hl hz
theorem rng {lo : Nat} {w : World} {M c : Nat} {rs : List ARow} (h : AB lo w M c rs) : ∀ k, blks M rs k → lo ≤ k ∧ k < w.heap.size := fun k hk => ⟨blks_low h k hk, blks_high h k hk⟩
theorem rngC {lo : Nat} {w : World} {M c : Nat} {cs : List CRow} (h : CB lo w M c cs) : ∀ k, blksC M cs k → lo ≤ k ∧ k < w.heap.size := fun k hk => ⟨blksC_low h k hk, blksC_high h k hk⟩
theorem row_len {lo : Nat} {w : World} {M c : Nat} {rs : List ARow} (h : AB lo w M c rs) : ∀ x ∈ rs, x.2.2.l.length ≤ 1048576 := fun x hx => (h.rows x hx).2.1
theorem rowC_len {lo : Nat} {w : World} {M c : Nat} {cs : List CRow} {C : List PCh} (h : CB lo w M c cs) (hp : chs cs = C) (hs : sumC C ≤ 2000000) : ∀ x ∈ cs, x.rs.length ≤ 2000000 ∧ ∀ y ∈ x.rs, y.2.2.l.length ≤ 1048576 := fun x hx => by
  refine ⟨?_, row_len (h.rows.rows x hx)⟩
  have hm : x.ch ∈ C := by rw [← hp]; exact List.mem_map.2 ⟨x, hx, rfl⟩
  have h1 := sumC_mem hm
  have h2 := pals_len x.rs
  have h3 : x.ch.P = pals x.rs := rfl
  rw [h3] at h1
  omega
theorem marksC {cs : List CRow} {C : List PCh} (hp : chs cs = C) (hl : C.length ≤ 1100000) (hs : sumC C ≤ 2200000) : 1 + sumM cs ≤ 8000000 := by
  have h1 := sumM_chs cs
  rw [hp, lenc_of hp] at h1
  omega
open Sts
open StsM (MP blksS blksS_low blksS_high sumQ sumQ_pts Fine8 fine8 pb_only)
theorem rngS {lo : Nat} {w : World} {M c : Nat} {ps : List PRow} (h : PB lo w M c ps) : ∀ k, blksS M ps k → lo ≤ k ∧ k < w.heap.size := fun k hk => ⟨blksS_low h k hk, blksS_high h k hk⟩
theorem lent_of {ps : List PRow} {S : List PPt} (h : pts ps = S) : ps.length = S.length := by rw [← pts_len, h]
theorem marksT {ps : List PRow} {S : List PPt} (hp : pts ps = S) (hl : S.length ≤ 1100000) (hs : sumT S ≤ 1200000) : 1 + sumQ ps ≤ 8000000 := by
  have h1 := sumQ_pts ps
  rw [hp, lent_of hp] at h1
  omega
open StsP
open Go.Proofs.YtooninmicfcfoaaGreat.Mark (Apart Marked)
theorem wrapI (x : Int) : I64 (IntKind.i64.wrap x) := by rw [IntKind.wrap_i64]; exact ⟨by omega, by omega⟩
theorem sumT_set : ∀ (S : List PPt) (k : Nat) (y : PPt), k < S.length → sumT (S.set k y) + ((nthT S k).C.length + sumC (nthT S k).C) = sumT S + (y.C.length + sumC y.C)
  | [], k, y, h => by simp at h
  | p :: S, 0, y, h => by simp [sumT, nthT]; omega
  | p :: S, k + 1, y, h => by
    have ih := sumT_set S k y (by simpa using h)
    have e : nthT (p :: S) (k + 1) = nthT S k := by unfold nthT; simp
    rw [List.set_cons_succ, sumT, sumT, e]; omega
theorem putS_sum (S : List PPt) (x : PAl) : sumT (putS S x) ≤ sumT S + 2 + x.l.length := by
  by_cases h : S.length = 0
  · rw [(putS_0 h).1]; omega
  · have hk := StsH.home_lt (l := x.l) (show 0 < S.length by omega)
    rw [(putS_1 h rfl).1]
    have h1 := sumT_set S _ (putT (nthT S (StsH.homeN S.length x.l)) x) hk
    have h2 := PutS.putC_sum (nthT S (StsH.homeN S.length x.l)).C x
    have h3 : (putT (nthT S (StsH.homeN S.length x.l)) x).C = PrtC.putC (nthT S (StsH.homeN S.length x.l)).C x := rfl
    rw [h3] at h1
    omega
theorem putS_fits {S : List PPt} {x : PAl} (hf : FitsT S) (hs : sumT S ≤ 1048576) (hx : FitA x) : FitsT (putS S x) := by
  by_cases h : S.length = 0
  · rw [(putS_0 h).1]; exact hf
  · have hk := StsH.home_lt (l := x.l) (show 0 < S.length by omega)
    rw [(putS_1 h rfl).1]
    intro p hp
    rcases List.mem_or_eq_of_mem_set hp with hp | rfl
    · exact hf p hp
    · have h0 := sumT_nth hk
      have hq := hf _ (nthT_mem hk)
      have h2 := PutS.putC_sum (nthT S (StsH.homeN S.length x.l)).C x
      have h3 : (putT (nthT S (StsH.homeN S.length x.l)) x).C = PrtC.putC (nthT S (StsH.homeN S.length x.l)).C x := rfl
      exact ⟨hq.hb, wrapI _, by rw [h3]; unfold maxLen; omega, by rw [h3]; exact PutS.fitsC_put hq.fits (small_of (by omega)) hx⟩

theorem rnT {lo : Nat} {w : World} {M c : Nat} {ps : List PRow} {S : List PPt} (h : PB lo w M c ps) (hp : pts ps = S) : RdS RdN w (some ⟨M, 0, none⟩) S := by have := h.rn; rwa [hp] at this
theorem rdT {lo : Nat} {w : World} {M c : Nat} {ps : List PRow} {S : List PPt} (h : PB lo w M c ps) (hp : pts ps = S) : RdS RdA w (some ⟨M, 0, none⟩) S := (rnT h hp).rd
set_option maxRecDepth 100000 in
set_option maxHeartbeats 4000000 in
theorem walk (a0 : Option Addr) (cap0 : Nat) (l0 : List PPt) (a1 : Option Addr) (cap1 : Nat) (l1 : List Lab) (s1 e1 : Int) (n1 : ByteArray) (w : World) (r0 : RdS RdA w a0 l0) (m0 : l0.length ≤ maxLen) (z0 : FitsT l0) (g1 : AlIn w a1 l1 s1 e1 n1) :
    Calls Tryz.prog 6 #[.slice a0 l0.length cap0, .agg #[.slice a1 l1.length cap1, .int .i64 s1, .int .i64 e1, .string n1]] w fun e w' => e = .returned (.bool true) ∧ Below w.heap.size w w' := by
  have R0 : Hid (RdS RdA w a0 l0) := r0
  have M0 : Hid (l0.length ≤ maxLen) := m0
  have F0 : Hid (FitsT l0) := z0
  clear r0 m0 z0
  have R1 : Hid (Reads w a1 l1) := g1.reads
  have M1 : Hid (l1.length ≤ maxLen) := g1.len
  have G1 : Hid (AlIn w a1 l1 s1 e1 n1) := g1
  clear g1
  have B0 : Hid (Below w.heap.size w w) := Below.refl _ _
  go_enter Tryz.func6, Tryz.ntmps6
  go_wp2_with fail
  refine (szPS_any a0 cap0 l0 1048576 _ (R0.out.below stays_rd (grow_on B0.out (Go.Joins.below_alloc1 w _))) M0.out F0.out (by omega) (by omega)).mono ?_
  rintro e w1 ⟨⟨k0, rfl, p0, hn⟩, hb⟩
  have P1_1 : Hid (Blk w1 w.heap.size #[.slice a1 l1.length cap1, .int .i64 s1, .int .i64 e1, .string n1] 74) := (Blk.new _ _ _).grow hb
  have U_P1 : Hid (w.heap.size ≤ w.heap.size ∧ w.heap.size < w1.heap.size) := ⟨by omega, P1_1.out.lt⟩
  replace hb := grow_on (Go.Joins.below_alloc1 w _) hb
  have B1 : Hid (Below w.heap.size w w1) := grow_on B0.out hb
  have Z1 : Hid (w.heap.size ≤ w1.heap.size) := hb.size
  clear hb
  by_cases g0 : k0 < 0
  · clear hn
    go_wp2
    go_ret
    exact ⟨rfl, B1.out⟩
  have KP0 : Hid ((k0 : Int) + (l0.length : Int) + (sumT l0 : Int) ≤ 1048576) := by have := hn (by omega); show _ ≤ _; omega
  have K0 : Hid (l0.length ≤ 1048576 ∧ sumT l0 ≤ 1048576 ∧ l0.length + sumT l0 ≤ 1048576) := by have := hn (by omega); exact ⟨by omega, by omega, by omega⟩
  clear hn
  have cP10 : w1.cell? ⟨w.heap.size, 0, none⟩ = some (.slice a1 l1.length cap1) := (P1_1.out).cell 0
  have cP11 : w1.cell? ⟨w.heap.size, 1, none⟩ = some (.int .i64 s1) := (P1_1.out).cell 1
  have cP12 : w1.cell? ⟨w.heap.size, 2, none⟩ = some (.int .i64 e1) := (P1_1.out).cell 2
  have cP13 : w1.cell? ⟨w.heap.size, 3, none⟩ = some (.string n1) := (P1_1.out).cell 3
  go_wp2_with fail
  refine (Alm.sz_any a1 cap1 l1 s1 e1 n1 k0 _ (G1.out.below B1.out) (by omega) (by omega)).mono ?_
  rintro e w2 ⟨⟨k1, rfl, p1, hn⟩, hb⟩
  have B2 : Hid (Below w.heap.size w w2) := grow_on B1.out hb
  have Z2 : Hid (w1.heap.size ≤ w2.heap.size) := hb.size
  have P1_2 : Hid (Blk w2 w.heap.size #[.slice a1 l1.length cap1, .int .i64 s1, .int .i64 e1, .string n1] 74) := P1_1.out.grow hb
  clear hb cP10 cP11 cP12 cP13
  by_cases g1 : k1 < 0
  · clear hn
    go_wp2
    go_ret
    exact ⟨rfl, B2.out⟩
  have KL1 : Hid ((l1.length : Int) ≤ k0) := by have := hn (by omega); show _ ≤ _; omega
  have K1 : Hid (l1.length ≤ 1048576) := by have := hn (by omega); show l1.length ≤ 1048576; omega
  clear hn
  have FA : Hid (Alms.FitA (⟨l1, s1, e1, n1⟩ : PAl)) := ⟨M1.out, G1.out.fits, G1.out.sb, G1.out.eb, G1.out.note⟩
  have PS : Hid ((putS l0 (⟨l1, s1, e1, n1⟩ : PAl)).length = l0.length ∧ sumT (putS l0 (⟨l1, s1, e1, n1⟩ : PAl)) ≤ 1048578 ∧ (putS l0 (⟨l1, s1, e1, n1⟩ : PAl)).length ≤ maxLen ∧ FitsT (putS l0 (⟨l1, s1, e1, n1⟩ : PAl)) ∧ l0.length ≤ 1048576) := by
    have h1 := putS_sum l0 (⟨l1, s1, e1, n1⟩ : PAl)
    have h2 := K0.out
    have h3 := KL1.out
    have h4 := KP0.out
    have h5 : (⟨l1, s1, e1, n1⟩ : PAl).l.length = l1.length := rfl
    have h6 := putS_len l0 (⟨l1, s1, e1, n1⟩ : PAl)
    exact ⟨h6, by omega, by unfold maxLen; omega, putS_fits F0.out K0.out.2.1 FA.out, h2.1⟩
  obtain ⟨nu, hnu⟩ : ∃ nu, freshS l0 (⟨l1, s1, e1, n1⟩ : PAl) = nu := ⟨_, rfl⟩
  have HNU : Hid (freshS l0 (⟨l1, s1, e1, n1⟩ : PAl) = nu) := hnu
  clear hnu
  have HPUW : Hid (∀ (M0 AM : Nat) (T0 : List PRow) (c0 ca : Nat) (zz : World), PB 0 zz M0 c0 T0 → pts T0 = l0 → Reads zz (some ⟨AM, 0, none⟩) l1 → Calls Tryz.prog 38 #[.slice (some ⟨M0, 0, none⟩) l0.length c0, .agg #[.slice (some ⟨AM, 0, none⟩) l1.length ca, .int .i64 s1, .int .i64 e1, .string n1]] zz fun e w' => (∃ M c, e = .returned (.tuple #[.slice (some ⟨M, 0, none⟩) l0.length c, .bool nu]) ∧ ∃ ps, PB zz.heap.size w' M c ps ∧ pts ps = (putS l0 (⟨l1, s1, e1, n1⟩ : PAl)) ∧ Own8 ps) ∧ Below zz.heap.size zz w') := fun M0 AM T0 c0 ca zz h1 h2 h3 => by
    have h := StsP.specPutA_any (some ⟨M0, 0, none⟩) c0 l0 AM 0 ca (⟨l1, s1, e1, n1⟩ : PAl) zz (rnT h1 h2) h3 K0.out.1 K0.out.2.1 K1.out G1.out.fits
    rw [HNU.out] at h
    exact h
  have cP10 : w2.cell? ⟨w.heap.size, 0, none⟩ = some (.slice a1 l1.length cap1) := (P1_2.out).cell 0
  have cP11 : w2.cell? ⟨w.heap.size, 1, none⟩ = some (.int .i64 s1) := (P1_2.out).cell 1
  have cP12 : w2.cell? ⟨w.heap.size, 2, none⟩ = some (.int .i64 e1) := (P1_2.out).cell 2
  have cP13 : w2.cell? ⟨w.heap.size, 3, none⟩ = some (.string n1) := (P1_2.out).cell 3
  go_wp2
  have kz : Below w2.heap.size w2 w2.drew := (Below.refl _ _).drew
  have kP1 := P1_2.out.lt
  have HS : Hid (∀ w', Below w2.heap.size w2 w' → Below w2.heap.size w2 w' ∧ w'.cell? ⟨w.heap.size, 0, none⟩ = some (.slice a1 l1.length cap1) ∧ w'.cell? ⟨w.heap.size, 1, none⟩ = some (.int .i64 s1) ∧ w'.cell? ⟨w.heap.size, 2, none⟩ = some (.int .i64 e1) ∧ w'.cell? ⟨w.heap.size, 3, none⟩ = some (.string n1)) := fun w' h => ⟨h, (h.cell kP1).trans cP10, (h.cell kP1).trans cP11, (h.cell kP1).trans cP12, (h.cell kP1).trans cP13⟩
  go_region_held3 (fun w' => Below w2.heap.size w2 w' ∧ w'.cell? ⟨w.heap.size, 0, none⟩ = some (.slice a1 l1.length cap1) ∧ w'.cell? ⟨w.heap.size, 1, none⟩ = some (.int .i64 s1) ∧ w'.cell? ⟨w.heap.size, 2, none⟩ = some (.int .i64 e1) ∧ w'.cell? ⟨w.heap.size, 3, none⟩ = some (.string n1)) (first | with_reducible exact HS.out _ kz | with_reducible exact HS.out _ (grow_on kz hy0) | with_reducible exact HS.out _ (grow_on (grow_on kz hy0) hy1) | with_reducible exact HS.out _ (grow_on (grow_on (grow_on kz hy0) hy1) hy2) | (go_keep; done)) (first | (go_at_call 53; with_reducible refine (toPS_any a0 cap0 l0 _ (R0.out.below stays_rd (grow_on B2.out kz)) K0.out.1 K0.out.2.1).mono ?_; rintro e wy0 ⟨rfl, ⟨Tr, hA0, hP0, hO0⟩, hy0⟩) | (go_at_call 54; with_reducible refine (Alm.to_any a1 cap1 l1 s1 e1 n1 _ (R1.out.below (grow_on B2.out (grow_on kz hy0))) K1.out).mono ?_; rintro e wy1 ⟨⟨EM, Ecs, rfl, -, hk, -, hh⟩, hy1⟩) | (go_at_call 38; refine (HPUW.out _ _ _ _ _ _ ((hA0.down (Nat.zero_le _)).grow hy1) hP0 (held_reads hk hh)).mono ?_; rintro e w3 ⟨⟨WM, Wc, rfl, Wr, hA, hP, hO⟩, hy2⟩))
  have hb := (grow_on (grow_on (grow_on kz hy0) hy1) hy2)
  have W_3 : Hid (PB w2.heap.size w3 WM Wc Wr) := hA.down ((grow_on (grow_on kz hy0) hy1)).size
  have WP : Hid (pts Wr = (putS l0 (⟨l1, s1, e1, n1⟩ : PAl)) ∧ Own8 Wr) := ⟨hP, hO⟩
  have WR : Hid (∀ k, blksS WM Wr k → w2.heap.size ≤ k ∧ k < w3.heap.size) := rngS W_3.out
  have B3 : Hid (Below w.heap.size w w3) := grow_on B2.out hb
  have Z3 : Hid (w2.heap.size ≤ w3.heap.size) := hb.size
  have P1_3 : Hid (Blk w3 w.heap.size #[.slice a1 l1.length cap1, .int .i64 s1, .int .i64 e1, .string n1] 74) := P1_2.out.grow hb
  clear hb kz HS hy0 hy1 hy2 kP1 cP10 cP11 cP12 cP13 hA0 hP0 hO0 hk hh hA hP hO
  have cP10 : w3.cell? ⟨w.heap.size, 0, none⟩ = some (.slice a1 l1.length cap1) := (P1_3.out).cell 0
  have cP11 : w3.cell? ⟨w.heap.size, 1, none⟩ = some (.int .i64 s1) := (P1_3.out).cell 1
  have cP12 : w3.cell? ⟨w.heap.size, 2, none⟩ = some (.int .i64 e1) := (P1_3.out).cell 2
  have cP13 : w3.cell? ⟨w.heap.size, 3, none⟩ = some (.string n1) := (P1_3.out).cell 3
  go_wp2_with fail
  refine (toPS_any a0 cap0 l0 _ (R0.out.below stays_rd B3.out) K0.out.1 K0.out.2.1).mono ?_
  rintro e w4 ⟨rfl, ⟨Xr, hA, hP, hO⟩, hb⟩
  have X_4 : Hid (PB w3.heap.size w4 w3.heap.size l0.length Xr) := (by first | exact hA | (have hA2 := hA; simp at hA2; exact hA2))
  have XP : Hid (pts Xr = l0 ∧ Own8 Xr) := ⟨hP, hO⟩
  have U_X : Hid (w3.heap.size ≤ w3.heap.size ∧ w3.heap.size < w4.heap.size) := ⟨by omega, X_4.out.lt⟩
  clear hA hP hO
  have B4 : Hid (Below w.heap.size w w4) := grow_on B3.out hb
  have Z4 : Hid (w3.heap.size ≤ w4.heap.size) := hb.size
  have P1_4 : Hid (Blk w4 w.heap.size #[.slice a1 l1.length cap1, .int .i64 s1, .int .i64 e1, .string n1] 74) := P1_3.out.grow hb
  have W_4 : Hid (PB w2.heap.size w4 WM Wc Wr) := W_3.out.grow hb
  clear hb cP10 cP11 cP12 cP13
  have XR : Hid (∀ k, blksS w3.heap.size Xr k → w3.heap.size ≤ k ∧ k < w4.heap.size) := rngS X_4.out
  have cP10 : w4.cell? ⟨w.heap.size, 0, none⟩ = some (.slice a1 l1.length cap1) := (P1_4.out).cell 0
  have cP11 : w4.cell? ⟨w.heap.size, 1, none⟩ = some (.int .i64 s1) := (P1_4.out).cell 1
  have cP12 : w4.cell? ⟨w.heap.size, 2, none⟩ = some (.int .i64 e1) := (P1_4.out).cell 2
  have cP13 : w4.cell? ⟨w.heap.size, 3, none⟩ = some (.string n1) := (P1_4.out).cell 3
  go_wp2_with fail
  refine (Alm.to_any a1 cap1 l1 s1 e1 n1 _ (R1.out.below B4.out) K1.out).mono ?_
  rintro e w5 ⟨⟨YM, Ycs, rfl, hXM, hk, hs, hh⟩, hb⟩
  have Y_5 : Hid (Blk w5 YM Ycs 127) := hk
  have Ys : Hid (Ycs.size = l1.length * 2) := hs
  have Yh : Hid (LabT.Held Ycs l1 l1.length) := hh
  have U_Y : Hid (w4.heap.size ≤ YM ∧ YM < w5.heap.size) := ⟨hXM, hk.lt⟩
  clear hk hs hh hXM
  have B5 : Hid (Below w.heap.size w w5) := grow_on B4.out hb
  have Z5 : Hid (w4.heap.size ≤ w5.heap.size) := hb.size
  have P1_5 : Hid (Blk w5 w.heap.size #[.slice a1 l1.length cap1, .int .i64 s1, .int .i64 e1, .string n1] 74) := P1_4.out.grow hb
  have W_5 : Hid (PB w2.heap.size w5 WM Wc Wr) := W_4.out.grow hb
  have X_5 : Hid (PB w3.heap.size w5 w3.heap.size l0.length Xr) := X_4.out.grow hb
  clear hb cP10 cP11 cP12 cP13
  have HPUG : Hid (∀ (M0 AM : Nat) (T0 : List PRow) (c0 ca : Nat) (zz : World), PB 0 zz M0 c0 T0 → pts T0 = l0 → Reads zz (some ⟨AM, 0, none⟩) l1 → Calls Tryz.prog 30 #[.slice (some ⟨M0, 0, none⟩) l0.length c0, .agg #[.slice (some ⟨AM, 0, none⟩) l1.length ca, .int .i64 s1, .int .i64 e1, .string n1]] zz fun e w' => (∃ M c, e = .returned (.tuple #[.slice (some ⟨M, 0, none⟩) l0.length c, .bool nu]) ∧ ∃ ps, PB zz.heap.size w' M c ps ∧ pts ps = (putS l0 (⟨l1, s1, e1, n1⟩ : PAl)) ∧ Own8 ps) ∧ Below zz.heap.size zz w') := fun M0 AM T0 c0 ca zz h1 h2 h3 => by
    have h := StsP.implPutA_any (some ⟨M0, 0, none⟩) c0 l0 AM 0 ca (⟨l1, s1, e1, n1⟩ : PAl) zz (rdT h1 h2) h3 K0.out.1 K0.out.2.1 K1.out G1.out.fits
    rw [HNU.out] at h
    exact h
  have cP10 : (w5.alloc (.cells #[.slice (some ⟨YM, 0, none⟩) l1.length l1.length, .int .i64 s1, .int .i64 e1, .string n1] 29)).cell? ⟨w.heap.size, 0, none⟩ = some (.slice a1 l1.length cap1) := ((P1_5.out.alloc _)).cell 0
  have cP11 : (w5.alloc (.cells #[.slice (some ⟨YM, 0, none⟩) l1.length l1.length, .int .i64 s1, .int .i64 e1, .string n1] 29)).cell? ⟨w.heap.size, 1, none⟩ = some (.int .i64 s1) := ((P1_5.out.alloc _)).cell 1
  have cP12 : (w5.alloc (.cells #[.slice (some ⟨YM, 0, none⟩) l1.length l1.length, .int .i64 s1, .int .i64 e1, .string n1] 29)).cell? ⟨w.heap.size, 2, none⟩ = some (.int .i64 e1) := ((P1_5.out.alloc _)).cell 2
  have cP13 : (w5.alloc (.cells #[.slice (some ⟨YM, 0, none⟩) l1.length l1.length, .int .i64 s1, .int .i64 e1, .string n1] 29)).cell? ⟨w.heap.size, 3, none⟩ = some (.string n1) := ((P1_5.out.alloc _)).cell 3
  go_wp2_with fail
  refine (HPUG.out w3.heap.size YM Xr _ _ _ (((X_5.out.down (Nat.zero_le _))).grow (Go.Joins.below_alloc1 w5 _)) XP.out.1 ((held_reads Y_5.out Yh.out).below (Go.Joins.below_alloc1 w5 _))).mono ?_
  rintro e w6 ⟨⟨GM, Gc, rfl, Gr, hA, hP, hO⟩, hb⟩
  have G_6 : Hid (PB (w5.heap.size + 1) w6 GM Gc Gr) := (by have hA2 := hA; simp at hA2; exact hA2)
  have GP : Hid (pts Gr = (putS l0 (⟨l1, s1, e1, n1⟩ : PAl)) ∧ Own8 Gr) := ⟨hP, hO⟩
  have GR : Hid (∀ k, blksS GM Gr k → w5.heap.size + 1 ≤ k ∧ k < w6.heap.size) := rngS G_6.out
  clear hA hP hO
  have Q1_6 : Hid (Blk w6 w5.heap.size #[.slice (some ⟨YM, 0, none⟩) l1.length l1.length, .int .i64 s1, .int .i64 e1, .string n1] 29) := (Blk.new _ _ _).grow hb
  have U_Q1 : Hid (w5.heap.size ≤ w5.heap.size ∧ w5.heap.size < w6.heap.size) := ⟨by omega, Q1_6.out.lt⟩
  replace hb := grow_on (Go.Joins.below_alloc1 w5 _) hb
  have B6 : Hid (Below w.heap.size w w6) := grow_on B5.out hb
  have Z6 : Hid (w5.heap.size ≤ w6.heap.size) := hb.size
  have P1_6 : Hid (Blk w6 w.heap.size #[.slice a1 l1.length cap1, .int .i64 s1, .int .i64 e1, .string n1] 74) := P1_5.out.grow hb
  have W_6 : Hid (PB w2.heap.size w6 WM Wc Wr) := W_5.out.grow hb
  have X_6 : Hid (PB w3.heap.size w6 w3.heap.size l0.length Xr) := X_5.out.grow hb
  have Y_6 : Hid (Blk w6 YM Ycs 127) := Y_5.out.grow hb
  clear hb cP10 cP11 cP12 cP13
  have hE6 : Hid (Calls Tryz.prog 55 #[.slice (some ⟨GM, 0, none⟩) l0.length Gc, .slice (some ⟨WM, 0, none⟩) l0.length Wc] w6 fun e w' => e = .returned (.bool true) ∧ Below w6.heap.size w6 w') := by
    have h := eqPS_any (some ⟨GM, 0, none⟩) (some ⟨WM, 0, none⟩) Gc Wc (putS l0 (⟨l1, s1, e1, n1⟩ : PAl)) w6 (rdT G_6.out GP.out.1) (rdT W_6.out WP.out.1) PS.out.2.2.1 PS.out.2.2.2.1
    rw [PS.out.1] at h
    exact h
  have cP10 : w6.cell? ⟨w.heap.size, 0, none⟩ = some (.slice a1 l1.length cap1) := (P1_6.out).cell 0
  have cP11 : w6.cell? ⟨w.heap.size, 1, none⟩ = some (.int .i64 s1) := (P1_6.out).cell 1
  have cP12 : w6.cell? ⟨w.heap.size, 2, none⟩ = some (.int .i64 e1) := (P1_6.out).cell 2
  have cP13 : w6.cell? ⟨w.heap.size, 3, none⟩ = some (.string n1) := (P1_6.out).cell 3
  have cQ10 : w6.cell? ⟨w5.heap.size, 0, none⟩ = some (.slice (some ⟨YM, 0, none⟩) l1.length l1.length) := (Q1_6.out).cell 0
  have cQ11 : w6.cell? ⟨w5.heap.size, 1, none⟩ = some (.int .i64 s1) := (Q1_6.out).cell 1
  have cQ12 : w6.cell? ⟨w5.heap.size, 2, none⟩ = some (.int .i64 e1) := (Q1_6.out).cell 2
  have cQ13 : w6.cell? ⟨w5.heap.size, 3, none⟩ = some (.string n1) := (Q1_6.out).cell 3
  go_wp2_with fail
  refine (hE6.out).mono ?_
  rintro e w7 ⟨rfl, hb⟩
  have B7 : Hid (Below w.heap.size w w7) := grow_on B6.out hb
  have Z7 : Hid (w6.heap.size ≤ w7.heap.size) := hb.size
  have P1_7 : Hid (Blk w7 w.heap.size #[.slice a1 l1.length cap1, .int .i64 s1, .int .i64 e1, .string n1] 74) := P1_6.out.grow hb
  have W_7 : Hid (PB w2.heap.size w7 WM Wc Wr) := W_6.out.grow hb
  have X_7 : Hid (PB w3.heap.size w7 w3.heap.size l0.length Xr) := X_6.out.grow hb
  have Y_7 : Hid (Blk w7 YM Ycs 127) := Y_6.out.grow hb
  have Q1_7 : Hid (Blk w7 w5.heap.size #[.slice (some ⟨YM, 0, none⟩) l1.length l1.length, .int .i64 s1, .int .i64 e1, .string n1] 29) := Q1_6.out.grow hb
  have G_7 : Hid (PB (w5.heap.size + 1) w7 GM Gc Gr) := G_6.out.grow hb
  clear hb cP10 cP11 cP12 cP13 cQ10 cQ11 cQ12 cQ13 hE6
  have cP10 : w7.cell? ⟨w.heap.size, 0, none⟩ = some (.slice a1 l1.length cap1) := (P1_7.out).cell 0
  have cP11 : w7.cell? ⟨w.heap.size, 1, none⟩ = some (.int .i64 s1) := (P1_7.out).cell 1
  have cP12 : w7.cell? ⟨w.heap.size, 2, none⟩ = some (.int .i64 e1) := (P1_7.out).cell 2
  have cP13 : w7.cell? ⟨w.heap.size, 3, none⟩ = some (.string n1) := (P1_7.out).cell 3
  have cQ10 : w7.cell? ⟨w5.heap.size, 0, none⟩ = some (.slice (some ⟨YM, 0, none⟩) l1.length l1.length) := (Q1_7.out).cell 0
  have cQ11 : w7.cell? ⟨w5.heap.size, 1, none⟩ = some (.int .i64 s1) := (Q1_7.out).cell 1
  have cQ12 : w7.cell? ⟨w5.heap.size, 2, none⟩ = some (.int .i64 e1) := (Q1_7.out).cell 2
  have cQ13 : w7.cell? ⟨w5.heap.size, 3, none⟩ = some (.string n1) := (Q1_7.out).cell 3
  go_wp2_with fail
  refine (toPS_any a0 cap0 l0 _ (R0.out.below stays_rd B7.out) K0.out.1 K0.out.2.1).mono ?_
  rintro e w8 ⟨rfl, ⟨Er, hA, hP, hO⟩, hb⟩
  have E_8 : Hid (PB w7.heap.size w8 w7.heap.size l0.length Er) := (by first | exact hA | (have hA2 := hA; simp at hA2; exact hA2))
  have EP : Hid (pts Er = l0 ∧ Own8 Er) := ⟨hP, hO⟩
  have U_E : Hid (w7.heap.size ≤ w7.heap.size ∧ w7.heap.size < w8.heap.size) := ⟨by omega, E_8.out.lt⟩
  clear hA hP hO
  have B8 : Hid (Below w.heap.size w w8) := grow_on B7.out hb
  have Z8 : Hid (w7.heap.size ≤ w8.heap.size) := hb.size
  have P1_8 : Hid (Blk w8 w.heap.size #[.slice a1 l1.length cap1, .int .i64 s1, .int .i64 e1, .string n1] 74) := P1_7.out.grow hb
  have W_8 : Hid (PB w2.heap.size w8 WM Wc Wr) := W_7.out.grow hb
  have X_8 : Hid (PB w3.heap.size w8 w3.heap.size l0.length Xr) := X_7.out.grow hb
  have Y_8 : Hid (Blk w8 YM Ycs 127) := Y_7.out.grow hb
  have Q1_8 : Hid (Blk w8 w5.heap.size #[.slice (some ⟨YM, 0, none⟩) l1.length l1.length, .int .i64 s1, .int .i64 e1, .string n1] 29) := Q1_7.out.grow hb
  have G_8 : Hid (PB (w5.heap.size + 1) w8 GM Gc Gr) := G_7.out.grow hb
  clear hb cP10 cP11 cP12 cP13 cQ10 cQ11 cQ12 cQ13
  have cP10 : w8.cell? ⟨w.heap.size, 0, none⟩ = some (.slice a1 l1.length cap1) := (P1_8.out).cell 0
  have cP11 : w8.cell? ⟨w.heap.size, 1, none⟩ = some (.int .i64 s1) := (P1_8.out).cell 1
  have cP12 : w8.cell? ⟨w.heap.size, 2, none⟩ = some (.int .i64 e1) := (P1_8.out).cell 2
  have cP13 : w8.cell? ⟨w.heap.size, 3, none⟩ = some (.string n1) := (P1_8.out).cell 3
  have cQ10 : w8.cell? ⟨w5.heap.size, 0, none⟩ = some (.slice (some ⟨YM, 0, none⟩) l1.length l1.length) := (Q1_8.out).cell 0
  have cQ11 : w8.cell? ⟨w5.heap.size, 1, none⟩ = some (.int .i64 s1) := (Q1_8.out).cell 1
  have cQ12 : w8.cell? ⟨w5.heap.size, 2, none⟩ = some (.int .i64 e1) := (Q1_8.out).cell 2
  have cQ13 : w8.cell? ⟨w5.heap.size, 3, none⟩ = some (.string n1) := (Q1_8.out).cell 3
  go_wp2_with fail
  refine (eqPS_any _ _ _ _ l0 _ (rdT X_8.out XP.out.1) (rdT E_8.out EP.out.1) M0.out F0.out).mono ?_
  rintro e w9 ⟨rfl, hb⟩
  have B9 : Hid (Below w.heap.size w w9) := grow_on B8.out hb
  have Z9 : Hid (w8.heap.size ≤ w9.heap.size) := hb.size
  have P1_9 : Hid (Blk w9 w.heap.size #[.slice a1 l1.length cap1, .int .i64 s1, .int .i64 e1, .string n1] 74) := P1_8.out.grow hb
  have W_9 : Hid (PB w2.heap.size w9 WM Wc Wr) := W_8.out.grow hb
  have X_9 : Hid (PB w3.heap.size w9 w3.heap.size l0.length Xr) := X_8.out.grow hb
  have Y_9 : Hid (Blk w9 YM Ycs 127) := Y_8.out.grow hb
  have Q1_9 : Hid (Blk w9 w5.heap.size #[.slice (some ⟨YM, 0, none⟩) l1.length l1.length, .int .i64 s1, .int .i64 e1, .string n1] 29) := Q1_8.out.grow hb
  have G_9 : Hid (PB (w5.heap.size + 1) w9 GM Gc Gr) := G_8.out.grow hb
  have E_9 : Hid (PB w7.heap.size w9 w7.heap.size l0.length Er) := E_8.out.grow hb
  clear hb cP10 cP11 cP12 cP13 cQ10 cQ11 cQ12 cQ13
  have eA : Alm.sameB l1 s1 e1 n1 l1 s1 e1 n1 = true := Alm.same_self _ _ _ _
  have cP10 : w9.cell? ⟨w.heap.size, 0, none⟩ = some (.slice a1 l1.length cap1) := (P1_9.out).cell 0
  have cP11 : w9.cell? ⟨w.heap.size, 1, none⟩ = some (.int .i64 s1) := (P1_9.out).cell 1
  have cP12 : w9.cell? ⟨w.heap.size, 2, none⟩ = some (.int .i64 e1) := (P1_9.out).cell 2
  have cP13 : w9.cell? ⟨w.heap.size, 3, none⟩ = some (.string n1) := (P1_9.out).cell 3
  have cQ10 : w9.cell? ⟨w5.heap.size, 0, none⟩ = some (.slice (some ⟨YM, 0, none⟩) l1.length l1.length) := (Q1_9.out).cell 0
  have cQ11 : w9.cell? ⟨w5.heap.size, 1, none⟩ = some (.int .i64 s1) := (Q1_9.out).cell 1
  have cQ12 : w9.cell? ⟨w5.heap.size, 2, none⟩ = some (.int .i64 e1) := (Q1_9.out).cell 2
  have cQ13 : w9.cell? ⟨w5.heap.size, 3, none⟩ = some (.string n1) := (Q1_9.out).cell 3
  go_wp2
  have kz : Below w9.heap.size w9 w9.drew := (Below.refl _ _).drew
  have kP1 := P1_9.out.lt
  have kQ1 := Q1_9.out.lt
  have HS : Hid (∀ w', Below w9.heap.size w9 w' → Below w9.heap.size w9 w' ∧ w'.cell? ⟨w.heap.size, 0, none⟩ = some (.slice a1 l1.length cap1) ∧ w'.cell? ⟨w.heap.size, 1, none⟩ = some (.int .i64 s1) ∧ w'.cell? ⟨w.heap.size, 2, none⟩ = some (.int .i64 e1) ∧ w'.cell? ⟨w.heap.size, 3, none⟩ = some (.string n1) ∧ w'.cell? ⟨w5.heap.size, 0, none⟩ = some (.slice (some ⟨YM, 0, none⟩) l1.length l1.length) ∧ w'.cell? ⟨w5.heap.size, 1, none⟩ = some (.int .i64 s1) ∧ w'.cell? ⟨w5.heap.size, 2, none⟩ = some (.int .i64 e1) ∧ w'.cell? ⟨w5.heap.size, 3, none⟩ = some (.string n1)) := fun w' h => ⟨h, (h.cell kP1).trans cP10, (h.cell kP1).trans cP11, (h.cell kP1).trans cP12, (h.cell kP1).trans cP13, (h.cell kQ1).trans cQ10, (h.cell kQ1).trans cQ11, (h.cell kQ1).trans cQ12, (h.cell kQ1).trans cQ13⟩
  go_region_held3 (fun w' => Below w9.heap.size w9 w' ∧ w'.cell? ⟨w.heap.size, 0, none⟩ = some (.slice a1 l1.length cap1) ∧ w'.cell? ⟨w.heap.size, 1, none⟩ = some (.int .i64 s1) ∧ w'.cell? ⟨w.heap.size, 2, none⟩ = some (.int .i64 e1) ∧ w'.cell? ⟨w.heap.size, 3, none⟩ = some (.string n1) ∧ w'.cell? ⟨w5.heap.size, 0, none⟩ = some (.slice (some ⟨YM, 0, none⟩) l1.length l1.length) ∧ w'.cell? ⟨w5.heap.size, 1, none⟩ = some (.int .i64 s1) ∧ w'.cell? ⟨w5.heap.size, 2, none⟩ = some (.int .i64 e1) ∧ w'.cell? ⟨w5.heap.size, 3, none⟩ = some (.string n1)) (first | with_reducible exact HS.out _ kz | with_reducible exact HS.out _ (grow_on kz hy0) | with_reducible exact HS.out _ (grow_on (grow_on kz hy0) hy1) | (go_keep; done)) (first | (go_at_call 54; with_reducible refine (Alm.to_any a1 cap1 l1 s1 e1 n1 _ (R1.out.below (grow_on B9.out kz)) K1.out).mono ?_; rintro e wy ⟨⟨EM, Ecs, rfl, -, hk, -, hh⟩, hy0⟩) | (go_at_call 56; refine (Alm.eq_any _ _ _ _ l1 l1 s1 e1 s1 e1 n1 n1 _ ((held_reads Y_9.out Yh.out).below (grow_on kz hy0)) (held_reads hk hh) M1.out M1.out).mono ?_; rintro e w10 ⟨rfl, hy1⟩))
  have hb := (grow_on (grow_on kz hy0) hy1)
  have B10 : Hid (Below w.heap.size w w10) := grow_on B9.out hb
  have Z10 : Hid (w9.heap.size ≤ w10.heap.size) := hb.size
  have P1_10 : Hid (Blk w10 w.heap.size #[.slice a1 l1.length cap1, .int .i64 s1, .int .i64 e1, .string n1] 74) := P1_9.out.grow hb
  have W_10 : Hid (PB w2.heap.size w10 WM Wc Wr) := W_9.out.grow hb
  have X_10 : Hid (PB w3.heap.size w10 w3.heap.size l0.length Xr) := X_9.out.grow hb
  have Y_10 : Hid (Blk w10 YM Ycs 127) := Y_9.out.grow hb
  have Q1_10 : Hid (Blk w10 w5.heap.size #[.slice (some ⟨YM, 0, none⟩) l1.length l1.length, .int .i64 s1, .int .i64 e1, .string n1] 29) := Q1_9.out.grow hb
  have G_10 : Hid (PB (w5.heap.size + 1) w10 GM Gc Gr) := G_9.out.grow hb
  clear hb kz HS hy0 hy1 kP1 kQ1 cP10 cP11 cP12 cP13 cQ10 cQ11 cQ12 cQ13 hk hh
  have XL : Hid (Xr.length = l0.length) := lent_of XP.out.1
  have XS : Hid (1 + sumQ Xr ≤ 8000000) := marksT XP.out.1 (by have := K0.out; omega) (by have := K0.out; omega)
  have hXM : Hid (Calls Tryz.prog 57 #[.slice (some ⟨w3.heap.size, 0, none⟩) l0.length l0.length, .int .i64 1] w10 fun e w' => e = .returned (.int .i64 ((1 + sumQ Xr : Nat) : Int)) ∧ Only (blksS w3.heap.size Xr) w10 w') := by
    have h := (StsM.markPS_any w3.heap.size l0.length 1 _ l0.length Xr w10 X_10.out XP.out.2 (by rw [XL.out]; have := K0.out.1; omega) (fine8 X_10.out XP.out.1 (by have := K0.out; omega)) (by omega) (by have := XS.out; omega)).mono (fun e w' h => (⟨h.1, h.2.2⟩ : e = .returned (.int .i64 ((1 + sumQ Xr : Nat) : Int)) ∧ Only (blksS w3.heap.size Xr) w10 w'))
    rw [XL.out] at h
    exact h
  have cP10 : w10.cell? ⟨w.heap.size, 0, none⟩ = some (.slice a1 l1.length cap1) := (P1_10.out).cell 0
  have cP11 : w10.cell? ⟨w.heap.size, 1, none⟩ = some (.int .i64 s1) := (P1_10.out).cell 1
  have cP12 : w10.cell? ⟨w.heap.size, 2, none⟩ = some (.int .i64 e1) := (P1_10.out).cell 2
  have cP13 : w10.cell? ⟨w.heap.size, 3, none⟩ = some (.string n1) := (P1_10.out).cell 3
  have cQ10 : w10.cell? ⟨w5.heap.size, 0, none⟩ = some (.slice (some ⟨YM, 0, none⟩) l1.length l1.length) := (Q1_10.out).cell 0
  have cQ11 : w10.cell? ⟨w5.heap.size, 1, none⟩ = some (.int .i64 s1) := (Q1_10.out).cell 1
  have cQ12 : w10.cell? ⟨w5.heap.size, 2, none⟩ = some (.int .i64 e1) := (Q1_10.out).cell 2
  have cQ13 : w10.cell? ⟨w5.heap.size, 3, none⟩ = some (.string n1) := (Q1_10.out).cell 3
  go_wp2_with fail
  refine (hXM.out).mono ?_
  rintro e w11 ⟨rfl, ho⟩
  have B11 : Hid (Below w.heap.size w w11) := B10.out.trans (ho.low (fun k hk => by have hx := XR.out k hk; have hw := B3.out.size; omega) B10.out.size)
  have Z11 : Hid (w10.heap.size ≤ w11.heap.size) := ho.size
  have P1_11 : Hid (Blk w11 w.heap.size #[.slice a1 l1.length cap1, .int .i64 s1, .int .i64 e1, .string n1] 74) := ho.blk P1_10.out (fun hs => by have hx := XR.out _ hs; have h0 := Z1.out; have h1 := Z2.out; have h2 := Z3.out; have h3 := Z4.out; have h4 := Z5.out; have h5 := Z6.out; have h6 := Z7.out; have h7 := Z8.out; have h8 := Z9.out; have h9 := Z10.out; have h10 := Z11.out; have h11 := U_P1.out; have h12 := U_X.out; have h13 := U_Y.out; have h14 := U_Q1.out; have h15 := U_E.out; omega)
  have W_11 : Hid (PB w2.heap.size w11 WM Wc Wr) := pb_only W_10.out ho (fun k hk hs => by have hx := XR.out k hs; have hy := WR.out k hk; have h0 := Z1.out; have h1 := Z2.out; have h2 := Z3.out; have h3 := Z4.out; have h4 := Z5.out; have h5 := Z6.out; have h6 := Z7.out; have h7 := Z8.out; have h8 := Z9.out; have h9 := Z10.out; have h10 := Z11.out; have h11 := U_P1.out; have h12 := U_X.out; have h13 := U_Y.out; have h14 := U_Q1.out; have h15 := U_E.out; omega)
  have Y_11 : Hid (Blk w11 YM Ycs 127) := ho.blk Y_10.out (fun hs => by have hx := XR.out _ hs; have h0 := Z1.out; have h1 := Z2.out; have h2 := Z3.out; have h3 := Z4.out; have h4 := Z5.out; have h5 := Z6.out; have h6 := Z7.out; have h7 := Z8.out; have h8 := Z9.out; have h9 := Z10.out; have h10 := Z11.out; have h11 := U_P1.out; have h12 := U_X.out; have h13 := U_Y.out; have h14 := U_Q1.out; have h15 := U_E.out; omega)
  have Q1_11 : Hid (Blk w11 w5.heap.size #[.slice (some ⟨YM, 0, none⟩) l1.length l1.length, .int .i64 s1, .int .i64 e1, .string n1] 29) := ho.blk Q1_10.out (fun hs => by have hx := XR.out _ hs; have h0 := Z1.out; have h1 := Z2.out; have h2 := Z3.out; have h3 := Z4.out; have h4 := Z5.out; have h5 := Z6.out; have h6 := Z7.out; have h7 := Z8.out; have h8 := Z9.out; have h9 := Z10.out; have h10 := Z11.out; have h11 := U_P1.out; have h12 := U_X.out; have h13 := U_Y.out; have h14 := U_Q1.out; have h15 := U_E.out; omega)
  have G_11 : Hid (PB (w5.heap.size + 1) w11 GM Gc Gr) := pb_only G_10.out ho (fun k hk hs => by have hx := XR.out k hs; have hy := GR.out k hk; have h0 := Z1.out; have h1 := Z2.out; have h2 := Z3.out; have h3 := Z4.out; have h4 := Z5.out; have h5 := Z6.out; have h6 := Z7.out; have h7 := Z8.out; have h8 := Z9.out; have h9 := Z10.out; have h10 := Z11.out; have h11 := U_P1.out; have h12 := U_X.out; have h13 := U_Y.out; have h14 := U_Q1.out; have h15 := U_E.out; omega)
  clear ho cP10 cP11 cP12 cP13 cQ10 cQ11 cQ12 cQ13
  have MX : Hid (1 ≤ 1 + sumQ Xr ∧ 1 + sumQ Xr ≤ 10000000) := by have := XS.out; exact ⟨by omega, by omega⟩
  generalize 1 + sumQ Xr = m1 at MX ⊢
  have cP10 : w11.cell? ⟨w.heap.size, 0, none⟩ = some (.slice a1 l1.length cap1) := (P1_11.out).cell 0
  have cP11 : w11.cell? ⟨w.heap.size, 1, none⟩ = some (.int .i64 s1) := (P1_11.out).cell 1
  have cP12 : w11.cell? ⟨w.heap.size, 2, none⟩ = some (.int .i64 e1) := (P1_11.out).cell 2
  have cP13 : w11.cell? ⟨w.heap.size, 3, none⟩ = some (.string n1) := (P1_11.out).cell 3
  have cQ10 : w11.cell? ⟨w5.heap.size, 0, none⟩ = some (.slice (some ⟨YM, 0, none⟩) l1.length l1.length) := (Q1_11.out).cell 0
  have cQ11 : w11.cell? ⟨w5.heap.size, 1, none⟩ = some (.int .i64 s1) := (Q1_11.out).cell 1
  have cQ12 : w11.cell? ⟨w5.heap.size, 2, none⟩ = some (.int .i64 e1) := (Q1_11.out).cell 2
  have cQ13 : w11.cell? ⟨w5.heap.size, 3, none⟩ = some (.string n1) := (Q1_11.out).cell 3
  go_wp2_with fail
  refine ((AlmK.markA_any YM l1.length l1.length m1 s1 e1 n1 Ycs _ Y_11.out (by rw [Ys.out]; exact Nat.le_refl _) K1.out MX.out.1 MX.out.2).mono (fun e w' h => (⟨h.1, Only.apart (S := fun k => k = YM) h.2.2 rfl⟩ : e = .returned (.int .i64 ((m1 + 2 * l1.length : Nat) : Int)) ∧ Only (fun k => k = YM) w11 w'))).mono ?_
  rintro e w12 ⟨rfl, ho⟩
  have B12 : Hid (Below w.heap.size w w12) := B11.out.trans (ho.low (fun k hk => by have hk : k = YM := hk; have hw := B4.out.size; have h0 := Z1.out; have h1 := Z2.out; have h2 := Z3.out; have h3 := Z4.out; have h4 := Z5.out; have h5 := Z6.out; have h6 := Z7.out; have h7 := Z8.out; have h8 := Z9.out; have h9 := Z10.out; have h10 := Z11.out; have h11 := U_P1.out; have h12 := U_X.out; have h13 := U_Y.out; have h14 := U_Q1.out; have h15 := U_E.out; omega) B11.out.size)
  have Z12 : Hid (w11.heap.size ≤ w12.heap.size) := ho.size
  have P1_12 : Hid (Blk w12 w.heap.size #[.slice a1 l1.length cap1, .int .i64 s1, .int .i64 e1, .string n1] 74) := ho.blk P1_11.out (fun hs => by have hs : _ = YM := hs; have h0 := Z1.out; have h1 := Z2.out; have h2 := Z3.out; have h3 := Z4.out; have h4 := Z5.out; have h5 := Z6.out; have h6 := Z7.out; have h7 := Z8.out; have h8 := Z9.out; have h9 := Z10.out; have h10 := Z11.out; have h11 := Z12.out; have h12 := U_P1.out; have h13 := U_X.out; have h14 := U_Y.out; have h15 := U_Q1.out; have h16 := U_E.out; omega)
  have W_12 : Hid (PB w2.heap.size w12 WM Wc Wr) := pb_only W_11.out ho (fun k hk hs => by have hs : k = YM := hs; have hy := WR.out k hk; have h0 := Z1.out; have h1 := Z2.out; have h2 := Z3.out; have h3 := Z4.out; have h4 := Z5.out; have h5 := Z6.out; have h6 := Z7.out; have h7 := Z8.out; have h8 := Z9.out; have h9 := Z10.out; have h10 := Z11.out; have h11 := Z12.out; have h12 := U_P1.out; have h13 := U_X.out; have h14 := U_Y.out; have h15 := U_Q1.out; have h16 := U_E.out; omega)
  have G_12 : Hid (PB (w5.heap.size + 1) w12 GM Gc Gr) := pb_only G_11.out ho (fun k hk hs => by have hs : k = YM := hs; have hy := GR.out k hk; have h0 := Z1.out; have h1 := Z2.out; have h2 := Z3.out; have h3 := Z4.out; have h4 := Z5.out; have h5 := Z6.out; have h6 := Z7.out; have h7 := Z8.out; have h8 := Z9.out; have h9 := Z10.out; have h10 := Z11.out; have h11 := Z12.out; have h12 := U_P1.out; have h13 := U_X.out; have h14 := U_Y.out; have h15 := U_Q1.out; have h16 := U_E.out; omega)
  clear ho cP10 cP11 cP12 cP13 cQ10 cQ11 cQ12 cQ13
  have hq : ¬ ((m1 + 2 * l1.length : Nat) : Int) < 0 := by omega
  generalize m1 + 2 * l1.length = m2 at hq ⊢
  have hE12 : Hid (Calls Tryz.prog 55 #[.slice (some ⟨GM, 0, none⟩) l0.length Gc, .slice (some ⟨WM, 0, none⟩) l0.length Wc] w12 fun e w' => e = .returned (.bool true) ∧ Below w12.heap.size w12 w') := by
    have h := eqPS_any (some ⟨GM, 0, none⟩) (some ⟨WM, 0, none⟩) Gc Wc (putS l0 (⟨l1, s1, e1, n1⟩ : PAl)) w12 (rdT G_12.out GP.out.1) (rdT W_12.out WP.out.1) PS.out.2.2.1 PS.out.2.2.2.1
    rw [PS.out.1] at h
    exact h
  have cP10 : w12.cell? ⟨w.heap.size, 0, none⟩ = some (.slice a1 l1.length cap1) := (P1_12.out).cell 0
  have cP11 : w12.cell? ⟨w.heap.size, 1, none⟩ = some (.int .i64 s1) := (P1_12.out).cell 1
  have cP12 : w12.cell? ⟨w.heap.size, 2, none⟩ = some (.int .i64 e1) := (P1_12.out).cell 2
  have cP13 : w12.cell? ⟨w.heap.size, 3, none⟩ = some (.string n1) := (P1_12.out).cell 3
  go_wp2_with fail
  refine (hE12.out).mono ?_
  rintro e w13 ⟨rfl, hb⟩
  have B13 : Hid (Below w.heap.size w w13) := grow_on B12.out hb
  have Z13 : Hid (w12.heap.size ≤ w13.heap.size) := hb.size
  have P1_13 : Hid (Blk w13 w.heap.size #[.slice a1 l1.length cap1, .int .i64 s1, .int .i64 e1, .string n1] 74) := P1_12.out.grow hb
  have W_13 : Hid (PB w2.heap.size w13 WM Wc Wr) := W_12.out.grow hb
  have G_13 : Hid (PB (w5.heap.size + 1) w13 GM Gc Gr) := G_12.out.grow hb
  clear hb cP10 cP11 cP12 cP13 hE12
  clear hq
  have GL : Hid (Gr.length = l0.length) := by have := lent_of GP.out.1; rw [PS.out.1] at this; exact this
  have GS : Hid (1 + sumQ Gr ≤ 8000000) := marksT GP.out.1 (by have := PS.out; omega) (by have := PS.out; omega)
  have GF : Hid (Fine8 Gr) := fine8 G_13.out GP.out.1 (by have := PS.out; omega)
  have HO : Hid (Own8 Gr) := GP.out.2
  have hGM : Hid (Calls Tryz.prog 57 #[.slice (some ⟨GM, 0, none⟩) l0.length Gc, .int .i64 1] w13 fun e w' => e = .returned (.int .i64 ((1 + sumQ Gr : Nat) : Int)) ∧ MP w' GM Gr 1 Gr.length ∧ Only (blksS GM Gr) w13 w') := by
    have h := StsM.markPS_any GM Gc 1 _ Gc Gr w13 G_13.out GP.out.2 (by rw [GL.out]; have := PS.out; omega) GF.out (by omega) (by have := GS.out; omega)
    rw [GL.out] at h ⊢
    exact h
  have cP10 : w13.cell? ⟨w.heap.size, 0, none⟩ = some (.slice a1 l1.length cap1) := (P1_13.out).cell 0
  have cP11 : w13.cell? ⟨w.heap.size, 1, none⟩ = some (.int .i64 s1) := (P1_13.out).cell 1
  have cP12 : w13.cell? ⟨w.heap.size, 2, none⟩ = some (.int .i64 e1) := (P1_13.out).cell 2
  have cP13 : w13.cell? ⟨w.heap.size, 3, none⟩ = some (.string n1) := (P1_13.out).cell 3
  go_wp2_with fail
  refine (hGM.out).mono ?_
  rintro e w14 ⟨rfl, hm, ho⟩
  have B14 : Hid (Below w.heap.size w w14) := B13.out.trans (ho.low (fun k hk => by have hx := GR.out k hk; have hw := B4.out.size; have h0 := Z1.out; have h1 := Z2.out; have h2 := Z3.out; have h3 := Z4.out; have h4 := Z5.out; have h5 := Z6.out; have h6 := Z7.out; have h7 := Z8.out; have h8 := Z9.out; have h9 := Z10.out; have h10 := Z11.out; have h11 := Z12.out; have h12 := Z13.out; have h13 := U_P1.out; have h14 := U_X.out; have h15 := U_Y.out; have h16 := U_Q1.out; have h17 := U_E.out; omega) B13.out.size)
  have Z14 : Hid (w13.heap.size ≤ w14.heap.size) := ho.size
  have P1_14 : Hid (Blk w14 w.heap.size #[.slice a1 l1.length cap1, .int .i64 s1, .int .i64 e1, .string n1] 74) := ho.blk P1_13.out (fun hs => by have hx := GR.out _ hs; have h0 := Z1.out; have h1 := Z2.out; have h2 := Z3.out; have h3 := Z4.out; have h4 := Z5.out; have h5 := Z6.out; have h6 := Z7.out; have h7 := Z8.out; have h8 := Z9.out; have h9 := Z10.out; have h10 := Z11.out; have h11 := Z12.out; have h12 := Z13.out; have h13 := Z14.out; have h14 := U_P1.out; have h15 := U_X.out; have h16 := U_Y.out; have h17 := U_Q1.out; have h18 := U_E.out; omega)
  have W_14 : Hid (PB w2.heap.size w14 WM Wc Wr) := pb_only W_13.out ho (fun k hk hs => by have hx := GR.out k hs; have hy := WR.out k hk; have h0 := Z1.out; have h1 := Z2.out; have h2 := Z3.out; have h3 := Z4.out; have h4 := Z5.out; have h5 := Z6.out; have h6 := Z7.out; have h7 := Z8.out; have h8 := Z9.out; have h9 := Z10.out; have h10 := Z11.out; have h11 := Z12.out; have h12 := Z13.out; have h13 := Z14.out; have h14 := U_P1.out; have h15 := U_X.out; have h16 := U_Y.out; have h17 := U_Q1.out; have h18 := U_E.out; omega)
  have H_14 : Hid (MP w14 GM Gr 1 Gr.length) := hm
  clear hm hGM
  clear ho cP10 cP11 cP12 cP13
  generalize hz1 : 1 + sumQ Gr = z1
  have HZ1 : Hid (1 + sumQ Gr = z1) := hz1
  clear hz1
  have hH14 : Hid (Calls Tryz.prog 59 #[.slice (some ⟨GM, 0, none⟩) l0.length Gc, .int .i64 1] w14 fun e w' => e = .returned (.int .i64 (z1 : Int)) ∧ Below w14.heap.size w14 w') := by
    have h := StsM.heldPS_any GM 1 Gc Gr w14 H_14.out GF.out (by rw [GL.out]; have := PS.out; omega) (by omega) (by have := GS.out; omega)
    rw [GL.out, HZ1.out] at h
    exact h
  have hq1 : ¬ (z1 : Int) < 0 := by omega
  have cP10 : w14.cell? ⟨w.heap.size, 0, none⟩ = some (.slice a1 l1.length cap1) := (P1_14.out).cell 0
  have cP11 : w14.cell? ⟨w.heap.size, 1, none⟩ = some (.int .i64 s1) := (P1_14.out).cell 1
  have cP12 : w14.cell? ⟨w.heap.size, 2, none⟩ = some (.int .i64 e1) := (P1_14.out).cell 2
  have cP13 : w14.cell? ⟨w.heap.size, 3, none⟩ = some (.string n1) := (P1_14.out).cell 3
  go_wp2_with fail
  refine (hH14.out).mono ?_
  rintro e w15 ⟨rfl, hb⟩
  have B15 : Hid (Below w.heap.size w w15) := grow_on B14.out hb
  have Z15 : Hid (w14.heap.size ≤ w15.heap.size) := hb.size
  have P1_15 : Hid (Blk w15 w.heap.size #[.slice a1 l1.length cap1, .int .i64 s1, .int .i64 e1, .string n1] 74) := P1_14.out.grow hb
  have W_15 : Hid (PB w2.heap.size w15 WM Wc Wr) := W_14.out.grow hb
  have H_15 : Hid (MP w15 GM Gr 1 Gr.length) := H_14.out.grow hb
  clear hb cP10 cP11 cP12 cP13 hH14
  clear hq1
  have HPUV : Hid (∀ (M0 AM : Nat) (T0 : List PRow) (c0 ca : Nat) (zz : World), PB 0 zz M0 c0 T0 → pts T0 = l0 → Reads zz (some ⟨AM, 0, none⟩) l1 → Calls Tryz.prog 30 #[.slice (some ⟨M0, 0, none⟩) l0.length c0, .agg #[.slice (some ⟨AM, 0, none⟩) l1.length ca, .int .i64 s1, .int .i64 e1, .string n1]] zz fun e w' => (∃ M c, e = .returned (.tuple #[.slice (some ⟨M, 0, none⟩) l0.length c, .bool nu]) ∧ ∃ ps, PB zz.heap.size w' M c ps ∧ pts ps = (putS l0 (⟨l1, s1, e1, n1⟩ : PAl)) ∧ Own8 ps) ∧ Below zz.heap.size zz w') := fun M0 AM T0 c0 ca zz h1 h2 h3 => by
    have h := StsP.implPutA_any (some ⟨M0, 0, none⟩) c0 l0 AM 0 ca (⟨l1, s1, e1, n1⟩ : PAl) zz (rdT h1 h2) h3 K0.out.1 K0.out.2.1 K1.out G1.out.fits
    rw [HNU.out] at h
    exact h
  have cP10 : w15.cell? ⟨w.heap.size, 0, none⟩ = some (.slice a1 l1.length cap1) := (P1_15.out).cell 0
  have cP11 : w15.cell? ⟨w.heap.size, 1, none⟩ = some (.int .i64 s1) := (P1_15.out).cell 1
  have cP12 : w15.cell? ⟨w.heap.size, 2, none⟩ = some (.int .i64 e1) := (P1_15.out).cell 2
  have cP13 : w15.cell? ⟨w.heap.size, 3, none⟩ = some (.string n1) := (P1_15.out).cell 3
  go_wp2
  have kz : Below w15.heap.size w15 w15.drew := (Below.refl _ _).drew
  have kP1 := P1_15.out.lt
  have HS : Hid (∀ w', Below w15.heap.size w15 w' → Below w15.heap.size w15 w' ∧ w'.cell? ⟨w.heap.size, 0, none⟩ = some (.slice a1 l1.length cap1) ∧ w'.cell? ⟨w.heap.size, 1, none⟩ = some (.int .i64 s1) ∧ w'.cell? ⟨w.heap.size, 2, none⟩ = some (.int .i64 e1) ∧ w'.cell? ⟨w.heap.size, 3, none⟩ = some (.string n1)) := fun w' h => ⟨h, (h.cell kP1).trans cP10, (h.cell kP1).trans cP11, (h.cell kP1).trans cP12, (h.cell kP1).trans cP13⟩
  go_region_held3 (fun w' => Below w15.heap.size w15 w' ∧ w'.cell? ⟨w.heap.size, 0, none⟩ = some (.slice a1 l1.length cap1) ∧ w'.cell? ⟨w.heap.size, 1, none⟩ = some (.int .i64 s1) ∧ w'.cell? ⟨w.heap.size, 2, none⟩ = some (.int .i64 e1) ∧ w'.cell? ⟨w.heap.size, 3, none⟩ = some (.string n1)) (first | with_reducible exact HS.out _ kz | with_reducible exact HS.out _ (grow_on kz hy0) | with_reducible exact HS.out _ (grow_on (grow_on kz hy0) hy1) | with_reducible exact HS.out _ (grow_on (grow_on (grow_on kz hy0) hy1) hy2) | (go_keep; done)) (first | (go_at_call 53; with_reducible refine (toPS_any a0 cap0 l0 _ (R0.out.below stays_rd (grow_on B15.out kz)) K0.out.1 K0.out.2.1).mono ?_; rintro e wy0 ⟨rfl, ⟨Tr, hA0, hP0, hO0⟩, hy0⟩) | (go_at_call 54; with_reducible refine (Alm.to_any a1 cap1 l1 s1 e1 n1 _ (R1.out.below (grow_on B15.out (grow_on kz hy0))) K1.out).mono ?_; rintro e wy1 ⟨⟨EM, Ecs, rfl, -, hk, -, hh⟩, hy1⟩) | (go_at_call 30; refine (HPUV.out _ _ _ _ _ _ ((hA0.down (Nat.zero_le _)).grow hy1) hP0 (held_reads hk hh)).mono ?_; rintro e w16 ⟨⟨VM, Vc, rfl, Vr, hA, hP, hO⟩, hy2⟩))
  have hb := (grow_on (grow_on (grow_on kz hy0) hy1) hy2)
  have V_16 : Hid (PB w15.heap.size w16 VM Vc Vr) := hA.down ((grow_on (grow_on kz hy0) hy1)).size
  have VP : Hid (pts Vr = (putS l0 (⟨l1, s1, e1, n1⟩ : PAl)) ∧ Own8 Vr) := ⟨hP, hO⟩
  have VR : Hid (∀ k, blksS VM Vr k → w15.heap.size ≤ k ∧ k < w16.heap.size) := rngS V_16.out
  have B16 : Hid (Below w.heap.size w w16) := grow_on B15.out hb
  have Z16 : Hid (w15.heap.size ≤ w16.heap.size) := hb.size
  have P1_16 : Hid (Blk w16 w.heap.size #[.slice a1 l1.length cap1, .int .i64 s1, .int .i64 e1, .string n1] 74) := P1_15.out.grow hb
  have W_16 : Hid (PB w2.heap.size w16 WM Wc Wr) := W_15.out.grow hb
  have H_16 : Hid (MP w16 GM Gr 1 Gr.length) := H_15.out.grow hb
  clear hb kz HS hy0 hy1 hy2 kP1 cP10 cP11 cP12 cP13 hA0 hP0 hO0 hk hh hA hP hO
  have hE16 : Hid (Calls Tryz.prog 55 #[.slice (some ⟨VM, 0, none⟩) l0.length Vc, .slice (some ⟨WM, 0, none⟩) l0.length Wc] w16 fun e w' => e = .returned (.bool true) ∧ Below w16.heap.size w16 w') := by
    have h := eqPS_any (some ⟨VM, 0, none⟩) (some ⟨WM, 0, none⟩) Vc Wc (putS l0 (⟨l1, s1, e1, n1⟩ : PAl)) w16 (rdT V_16.out VP.out.1) (rdT W_16.out WP.out.1) PS.out.2.2.1 PS.out.2.2.2.1
    rw [PS.out.1] at h
    exact h
  have cP10 : w16.cell? ⟨w.heap.size, 0, none⟩ = some (.slice a1 l1.length cap1) := (P1_16.out).cell 0
  have cP11 : w16.cell? ⟨w.heap.size, 1, none⟩ = some (.int .i64 s1) := (P1_16.out).cell 1
  have cP12 : w16.cell? ⟨w.heap.size, 2, none⟩ = some (.int .i64 e1) := (P1_16.out).cell 2
  have cP13 : w16.cell? ⟨w.heap.size, 3, none⟩ = some (.string n1) := (P1_16.out).cell 3
  go_wp2_with fail
  refine (hE16.out).mono ?_
  rintro e w17 ⟨rfl, hb⟩
  have B17 : Hid (Below w.heap.size w w17) := grow_on B16.out hb
  have Z17 : Hid (w16.heap.size ≤ w17.heap.size) := hb.size
  have P1_17 : Hid (Blk w17 w.heap.size #[.slice a1 l1.length cap1, .int .i64 s1, .int .i64 e1, .string n1] 74) := P1_16.out.grow hb
  have W_17 : Hid (PB w2.heap.size w17 WM Wc Wr) := W_16.out.grow hb
  have H_17 : Hid (MP w17 GM Gr 1 Gr.length) := H_16.out.grow hb
  have V_17 : Hid (PB w15.heap.size w17 VM Vc Vr) := V_16.out.grow hb
  clear hb cP10 cP11 cP12 cP13 hE16
  have hH17 : Hid (Calls Tryz.prog 59 #[.slice (some ⟨GM, 0, none⟩) l0.length Gc, .int .i64 1] w17 fun e w' => e = .returned (.int .i64 (z1 : Int)) ∧ Below w17.heap.size w17 w') := by
    have h := StsM.heldPS_any GM 1 Gc Gr w17 H_17.out GF.out (by rw [GL.out]; have := PS.out; omega) (by omega) (by have := GS.out; omega)
    rw [GL.out, HZ1.out] at h
    exact h
  have hq1 : ¬ (z1 : Int) < 0 := by omega
  have cP10 : w17.cell? ⟨w.heap.size, 0, none⟩ = some (.slice a1 l1.length cap1) := (P1_17.out).cell 0
  have cP11 : w17.cell? ⟨w.heap.size, 1, none⟩ = some (.int .i64 s1) := (P1_17.out).cell 1
  have cP12 : w17.cell? ⟨w.heap.size, 2, none⟩ = some (.int .i64 e1) := (P1_17.out).cell 2
  have cP13 : w17.cell? ⟨w.heap.size, 3, none⟩ = some (.string n1) := (P1_17.out).cell 3
  go_wp2_with fail
  refine (hH17.out).mono ?_
  rintro e w18 ⟨rfl, hb⟩
  have B18 : Hid (Below w.heap.size w w18) := grow_on B17.out hb
  have Z18 : Hid (w17.heap.size ≤ w18.heap.size) := hb.size
  have P1_18 : Hid (Blk w18 w.heap.size #[.slice a1 l1.length cap1, .int .i64 s1, .int .i64 e1, .string n1] 74) := P1_17.out.grow hb
  have W_18 : Hid (PB w2.heap.size w18 WM Wc Wr) := W_17.out.grow hb
  have H_18 : Hid (MP w18 GM Gr 1 Gr.length) := H_17.out.grow hb
  have V_18 : Hid (PB w15.heap.size w18 VM Vc Vr) := V_17.out.grow hb
  clear hb cP10 cP11 cP12 cP13 hH17
  have cP10 : w18.cell? ⟨w.heap.size, 0, none⟩ = some (.slice a1 l1.length cap1) := (P1_18.out).cell 0
  have cP11 : w18.cell? ⟨w.heap.size, 1, none⟩ = some (.int .i64 s1) := (P1_18.out).cell 1
  have cP12 : w18.cell? ⟨w.heap.size, 2, none⟩ = some (.int .i64 e1) := (P1_18.out).cell 2
  have cP13 : w18.cell? ⟨w.heap.size, 3, none⟩ = some (.string n1) := (P1_18.out).cell 3
  go_wp2
  go_ret
  exact ⟨rfl, B18.out⟩
theorem own : ownKnob Tryz.prog.godebug = none := by kernel_rfl
theorem laidOut : laidOutB Tryz.prog = true := by kernel_rfl
set_option maxRecDepth 100000 in
theorem lifted (os : Os) (started : os.Started) (H : Type) (enc : TypeId × Value → H) :
    ReturnsInHanded {} Tryz.checked os 6 .any (Rows.fnExactPutAlarmSpec.pre6 enc Tryz.prog Tryz.f6 Rows.fnExactPutAlarmRow.domain false) (Rows.fnExactPutAlarmSpec.post enc Tryz.prog Tryz.f6 false true false false) := by
  refine returnsInHanded_of_change (C := Tryz.checked) own started (by kernel_rfl) Tryz.func6
    (ChangeSpec.witness6 (enc := enc) (C := Tryz.checked) false ⟨#[], #[.slice none 0 0, .agg #[.slice none 0 0, .int .i64 0, .int .i64 0, .string ⟨#[]⟩]], []⟩ 8 (by kernel_rfl) (by kernel_rfl) (by kernel_rfl) (by kernel_rfl)) ?_
  intro W base args ds gs before hval0 hW hcnd _
  have hval : ∀ (j : Nat) t v, Tryz.f6.params[j]? = some t → args[j]? = some v → Value.okWide Tryz.prog W .any base t v := hval0
  have hW' := hW
  obtain ⟨p, q, hA0, hV, rfl, hfz, hnd⟩ := hW
  have hA : DataW.TrodAll enc Tryz.prog W 0 (fun _ => true) true Tryz.f6.params.toList args.toList ds p := hA0
  rw [Tryz.params6] at hA hval
  obtain ⟨v0, vs0, d0, ds0, p0, q0, hargs, rfl, rfl, h0, r0⟩ := trodAll_cons hA
  obtain ⟨v1, vs1, d1, ds1, p1, q1, rfl, rfl, rfl, h1, r1⟩ := trodAll_cons r0
  obtain ⟨rfl, rfl, rfl⟩ := trodAll_nil r1
  obtain rfl : args = #[v0, v1] := by cases args; simp_all
  obtain ⟨rfl, rfl⟩ := trodVars_none hV
  obtain ⟨a0, len0, cap0, rfl⟩ := okWide_slice Tryz.underlying71 (hval 0 71 v0 rfl rfl)
  have k0 := h0
  have lt0 : ∀ x ∈ p0, x.block < W.heap.size := by obtain ⟨m, hm⟩ := k0; exact DataW.trod_lt m _ _ _ hm
  obtain ⟨l0, rfl, w0, m0, f0⟩ := Go.Proofs.YtooninmicfcfoaaGreat.Sts.open_parts h0
  have k1 := h1
  have lt1 : ∀ x ∈ p1, x.block < W.heap.size := by obtain ⟨m, hm⟩ := k1; exact DataW.trod_lt m _ _ _ hm
  obtain ⟨a1, cap1, l1, s1, e1, n1, rfl, w1⟩ := Go.Proofs.YtooninmicfcfoaaGreat.Alm.open_alarm (hval 1 74 v1 rfl rfl) h1
  clear hA0 hval0
  refine (walk a0 cap0 l0 a1 cap1 l1 s1 e1 n1 W w0 m0 f0 w1).mono fun e W' ⟨he, bel⟩ => ?_
  subst he
  exact ⟨_, rfl, _, _, _, [], _, [], hW', trodAll_mk1 (shut_bool Tryz.underlying4 _), (trodAll_cons_mk (Below.trod laidOut (by kernel_rfl) (of_decide_eq_true (by kernel_rfl)) k0 bel lt0) (trodAll_cons_mk (Below.trod laidOut (by kernel_rfl) (of_decide_eq_true (by kernel_rfl)) k1 bel lt1) trodAll_mk0)), rfl, bel.frame _, fun h => by cases h⟩

theorem over : Rows.fnExactPutAlarmRow.holds Tryz.pinned (OpenSpec.ofChange Rows.fnExactPutAlarmSpec) :=
  OpenClaim.holds_of_wide 6 Tryz.f6 rfl rfl rfl rfl rfl rfl rfl ⟨rfl, rfl, rfl, rfl, rfl⟩ rfl rfl rfl rfl rfl (by kernel_rfl) Tryz.func6 (by kernel_rfl)
    (of_decide_eq_true (by kernel_rfl)) (by unfold Func.isWrapper; first | (rw [if_pos (by decide +kernel)]; kernel_rfl) | (rw [if_neg (by decide +kernel)]; exact ⟨rfl, rfl⟩))
    (fun os started H enc _ => lifted os started H enc)

end Go.Proofs.YtooninmicfcfoaaGreat.FnExactPutAlarm
namespace Go.Proofs.YtooninmicfcfoaaGreat
theorem fnExactPutAlarm_holds : Rows.FnExactPutAlarmSaid := FnExactPutAlarm.over
#print axioms fnExactPutAlarm_holds
end Go.Proofs.YtooninmicfcfoaaGreat
