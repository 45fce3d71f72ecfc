/-
  PROVED: at every listener impl.Hear answers as spec.Hear, leaves it as it was, keeps nothing of it, and its answers lie in memory of their own, so the law laws.FnExactHear returns true, whatever its argument. No condition.
-/
import Derived.Test.YtdmhccheaemkkaaRows
import Derived.WalkKit
import Derived.ProofKit
import Derived.OpenShut
import Derived.ShutString
import Derived.ChangeOld
import Derived.Below
import Derived.WalkLawsBesides
import Derived.WalkSpells
import Derived.Test.YtdmhccheaemkkaaHer
import Derived.Deep.RegionHeld3
import Derived.Deep.DeepCutAuto
namespace Go.Proofs.Ytdmhccheaemkkaa.FnExactHear
open Go.ChangeShapes Go.WideShapes Go.ChangeAt Go.RowKit
open Go.ChangeMaps (open_string shut_string)
set_option linter.unusedVariables false

open Go.Proofs.Ytdmhccheaemkkaa.Labs Go.Proofs.Ytdmhccheaemkkaa.LabS Go.Proofs.Ytdmhccheaemkkaa.Over Go.Proofs.Ytdmhccheaemkkaa.Blk Go.Proofs.Ytdmhccheaemkkaa.Alms Go.Proofs.Ytdmhccheaemkkaa.Rws Go.Proofs.Ytdmhccheaemkkaa.ChnC Go.Proofs.Ytdmhccheaemkkaa.ChnK
open Go.Proofs.Ytdmhccheaemkkaa.Her
open Go.Proofs.Ytdmhccheaemkkaa.Alm (AlIn)
open Go.Proofs.Ytdmhccheaemkkaa.Mark (Apart Marked)
open Go.Proofs.Ytdmhccheaemkkaa.LabT (held_reads)
theorem bel_alloc {z w : World} (h : Below z.heap.size z w) (o : Obj) : Below z.heap.size z (w.alloc o) := h.alloc h.size o
theorem eqR_any (g : Bool) (a a' : Option Addr) (c c' : Nat) (rs rs' : List ARow) (P : List PAl) (w : World) (h : RdN w a (pals rs)) (h' : RdN w a' (pals rs')) (hp : pals rs = P) (hp' : pals rs' = P) (hl : P.length ≤ maxLen) (hz : FitsP P) :
    Calls Try.prog 33 #[.agg #[.slice a rs.length c, .bool g], .agg #[.slice a' rs'.length c', .bool g]] w fun e w' => e = .returned (.bool true) ∧ Below w.heap.size w w' := by
  rw [hp] at h
  rw [hp'] at h'
  rw [Que.len_of hp, Que.len_of hp']
  exact Sub.eq_any g _ _ c c' P w h.rd h'.rd hl hz
theorem eqX_any (x : PAl) (a a' : Option Addr) (c c' : Nat) (w : World) (h : Reads w a x.l) (h' : Reads w a' x.l) (hl : x.l.length ≤ maxLen) :
    Calls Try.prog 36 #[.agg #[.slice a x.l.length c, .int .i64 x.s, .int .i64 x.e, .string x.n], .agg #[.slice a' x.l.length c', .int .i64 x.s, .int .i64 x.e, .string x.n]] w fun e w' => e = .returned (.bool true) ∧ Below w.heap.size w w' :=
  (Alm.eq_any a a' c c' x.l x.l x.s x.e x.s x.e x.n x.n w h h' hl hl).mono fun e w' h => ⟨h.1.trans (by rw [Alm.same_self]), h.2⟩
theorem marks_le {rs : List ARow} {P : List PAl} {n m : Nat} (h : pals rs = P) (hl : P.length ≤ n) (hs : sumL P ≤ m) (hb : 2 * m + 3 * n ≤ 8000000) : sumA rs ≤ 8000000 := by
  rw [sumA_pals, h, Que.len_of h]; omega
theorem rng {lo : Nat} {w : World} {M c : Nat} {rs : List ARow} (h : AB lo w M c rs) : ∀ k, blks M rs k → lo ≤ k ∧ k < w.heap.size := fun k hk => ⟨blks_low h k hk, blks_high h k hk⟩
theorem specH (a : Option Addr) (cap : Nat) (P : List PAl) (g : Bool) (HL : List PAl) (HX : PAl) (HN : Int) (h1 : hearP P g = HL ∧ hearX P g = HX ∧ hearN P g = HN) (w : World) (hr : RdN w a P) (hl : P.length ≤ 1048576) (hs : LenM P) (hcap : P.length ≤ cap) :
    Calls Try.prog 14 #[.agg #[.slice a P.length cap, .bool g]] w fun e w' => (∃ a' c ax cx rs, e = .returned (.tuple #[.agg #[.slice a' rs.length c, .bool false], .agg #[.slice ax HX.l.length cx, .int .i64 HX.s, .int .i64 HX.e, .string HX.n], .int .i64 HN]) ∧ AQ w.heap.size w' a' rs ∧ pals rs = HL ∧ YQ w.heap.size w' ax HX) ∧ Below w.heap.size w w' := by
  have h := specHear_any a cap P g w hr hl hs hcap
  rw [h1.1, h1.2.1, h1.2.2] at h
  exact h
theorem implH (a : Option Addr) (cap : Nat) (P : List PAl) (g : Bool) (HL : List PAl) (HX : PAl) (HN : Int) (h1 : hearP P g = HL ∧ hearX P g = HX ∧ hearN P g = HN) (w : World) (hr : RdA w a P) (hl : P.length ≤ 1048576) (hs : LenM P) :
    Calls Try.prog 13 #[.agg #[.slice a P.length cap, .bool g]] w fun e w' => (∃ a' c ax cx rs, e = .returned (.tuple #[.agg #[.slice a' rs.length c, .bool false], .agg #[.slice ax HX.l.length cx, .int .i64 HX.s, .int .i64 HX.e, .string HX.n], .int .i64 HN]) ∧ AQ w.heap.size w' a' rs ∧ pals rs = HL ∧ YQ w.heap.size w' ax HX ∧ ∀ k, blksA a' rs k → ¬ blkY ax k) ∧ Below w.heap.size w w' := by
  have h := implHear_any a cap P g w hr hl hs
  rw [h1.1, h1.2.1, h1.2.2] at h
  exact h
theorem rdP {lo : Nat} {w : World} {M c : Nat} {rs : List ARow} {P : List PAl} (h : AB lo w M c rs) (hp : pals rs = P) : RdN w (some ⟨M, 0, none⟩) P := by have := h.rd; rwa [hp] at this
theorem len_m {P : List PAl} (h : LenM P) : ChnI.LenP P := ChnP.len_m h
set_option maxRecDepth 100000 in
set_option maxHeartbeats 4000000 in
theorem walk (a0 : Option Addr) (cap0 : Nat) (l0 : List PAl) (b0 : Bool) (w : World) (r0 : RdA w a0 l0) (m0 : l0.length ≤ maxLen) (z0 : FitsP l0) :
    Calls Try.prog 8 #[.agg #[.slice a0 l0.length cap0, .bool b0]] w fun e w' => e = .returned (.bool true) ∧ Below w.heap.size w w' := by
  have R0 : Hid (RdA w a0 l0) := r0
  have M0 : Hid (l0.length ≤ maxLen) := m0
  have F0 : Hid (FitsP l0) := z0
  clear r0 m0 z0
  have B0 : Hid (Below w.heap.size w w) := Below.refl _ _
  go_enter Try.func8, Try.ntmps8
  go_wp2_with fail
  refine (Sub.sz_any b0 a0 cap0 l0 1048576 _ (R0.out.below (grow_on B0.out (Go.Joins.below_alloc1 w _))) M0.out F0.out (by omega) (by omega)).mono ?_
  rintro e w1 ⟨⟨k0, rfl, p0, hn⟩, hb⟩
  have P0_1 : Hid (Blk w1 w.heap.size #[.slice a0 l0.length cap0, .bool b0] 52) := (Blk.new _ _ _).grow hb
  have U_P0 : Hid (w.heap.size ≤ w.heap.size ∧ w.heap.size < w1.heap.size) := ⟨by omega, P0_1.out.lt⟩
  replace hb := grow_on (Go.Joins.below_alloc1 w _) hb
  have B1 : Hid (Below w.heap.size w w1) := grow_on B0.out hb
  have Z1 : Hid (w.heap.size ≤ w1.heap.size) := hb.size
  clear hb
  by_cases g0 : k0 < 0
  · clear hn
    go_wp2
    go_ret
    exact ⟨rfl, B1.out⟩
  have K0 : Hid (l0.length ≤ 1048576 ∧ sumL l0 ≤ 1048576 ∧ l0.length + sumL l0 ≤ 1048576) := by have := hn (by omega); exact ⟨by omega, by omega, by omega⟩
  have N0 : Hid (LenM l0) := fun q hq => Nat.le_trans (sum_nth hq) K0.out.2.1
  clear hn
  obtain ⟨HL, HX, HN, hH⟩ : ∃ HL HX HN, hearP l0 b0 = HL ∧ hearX l0 b0 = HX ∧ hearN l0 b0 = HN := ⟨_, _, _, rfl, rfl, rfl⟩
  have HH : Hid (hearP l0 b0 = HL ∧ hearX l0 b0 = HX ∧ hearN l0 b0 = HN) := hH
  have hq := hear_sum l0 b0
  have hf := hear_fits b0 F0.out
  rw [hH.1, hH.2.1] at hq hf
  have PL : Hid (HL.length ≤ maxLen ∧ FitsP HL ∧ HX.l.length ≤ maxLen ∧ HX.l.length ≤ 1048576) := by
    have h2 := K0.out
    exact ⟨ChnK.len_max (by omega), hf.1, hf.2.len, by omega⟩
  have PS : Hid (HL.length ≤ 1048576 ∧ sumL HL + HX.l.length ≤ 1048576) := by
    have h2 := K0.out
    exact ⟨by omega, by omega⟩
  clear hq hf hH
  have cP00 : w1.cell? ⟨w.heap.size, 0, none⟩ = some (.slice a0 l0.length cap0) := (P0_1.out).cell 0
  have cP01 : w1.cell? ⟨w.heap.size, 1, none⟩ = some (.bool b0) := (P0_1.out).cell 1
  go_wp2_with fail
  refine (Sub.to_any b0 a0 cap0 l0 _ (R0.out.below B1.out) K0.out.1 K0.out.2.1).mono ?_
  rintro e w2 ⟨⟨SM, Sr, rfl, hA, hP⟩, hb⟩
  have S_2 : Hid (AB w1.heap.size w2 SM l0.length Sr) := hA.down (by first | omega | (simp; omega))
  have SP : Hid (pals Sr = l0) := hP
  have U_S : Hid (w1.heap.size ≤ SM ∧ SM < w2.heap.size) := ⟨S_2.out.at', S_2.out.lt⟩
  clear hA hP
  have B2 : Hid (Below w.heap.size w w2) := grow_on B1.out hb
  have Z2 : Hid (w1.heap.size ≤ w2.heap.size) := hb.size
  have P0_2 : Hid (Blk w2 w.heap.size #[.slice a0 l0.length cap0, .bool b0] 52) := P0_1.out.grow hb
  clear hb cP00 cP01
  have cP00 : w2.cell? ⟨w.heap.size, 0, none⟩ = some (.slice a0 l0.length cap0) := (P0_2.out).cell 0
  have cP01 : w2.cell? ⟨w.heap.size, 1, none⟩ = some (.bool b0) := (P0_2.out).cell 1
  go_wp2_with fail
  refine (specH _ _ l0 b0 HL HX HN HH.out _ (rdP S_2.out SP.out) K0.out.1 N0.out (Nat.le_refl _)).mono ?_
  rintro e w3 ⟨⟨Wa, Wc, Wx, Wy, Wr, rfl, hA, hP, hY⟩, hb⟩
  have W_3 : Hid (AQ w2.heap.size w3 Wa Wr) := hA.down (by first | exact Nat.le_refl _ | simp)
  have WY_3 : Hid (YQ w2.heap.size w3 Wx HX) := hY.down (by first | exact Nat.le_refl _ | simp)
  have WP : Hid (pals Wr = HL) := hP
  have WR : Hid (∀ k, blksA Wa Wr k → w2.heap.size ≤ k ∧ k < w3.heap.size) := fun k hk => by have := hA.rng k hk; (try simp at this); omega
  have WYR : Hid (∀ k, blkY Wx k → w2.heap.size ≤ k ∧ k < w3.heap.size) := fun k hk => by have := hY.rng k hk; (try simp at this); omega
  have WL : Hid (∀ x ∈ Wr, x.2.2.l.length ≤ 1048576) := hA.len
  clear hA hP hY
  have B3 : Hid (Below w.heap.size w w3) := grow_on B2.out hb
  have Z3 : Hid (w2.heap.size ≤ w3.heap.size) := hb.size
  have P0_3 : Hid (Blk w3 w.heap.size #[.slice a0 l0.length cap0, .bool b0] 52) := P0_2.out.grow hb
  have S_3 : Hid (AB w1.heap.size w3 SM l0.length Sr) := S_2.out.grow hb
  clear hb cP00 cP01
  have cP00 : ((w3.alloc (.cells #[.slice Wa Wr.length Wc, .bool false] 26)).alloc (.cells #[.slice Wx HX.l.length Wy, .int .i64 HX.s, .int .i64 HX.e, .string HX.n] 29)).cell? ⟨w.heap.size, 0, none⟩ = some (.slice a0 l0.length cap0) := (((P0_3.out.alloc _).alloc _)).cell 0
  have cP01 : ((w3.alloc (.cells #[.slice Wa Wr.length Wc, .bool false] 26)).alloc (.cells #[.slice Wx HX.l.length Wy, .int .i64 HX.s, .int .i64 HX.e, .string HX.n] 29)).cell? ⟨w.heap.size, 1, none⟩ = some (.bool b0) := (((P0_3.out.alloc _).alloc _)).cell 1
  go_wp2_with fail
  refine (Sub.to_any b0 a0 cap0 l0 _ (R0.out.below (grow_on B3.out (Go.Joins.below_alloc2 w3 _ _))) K0.out.1 K0.out.2.1).mono ?_
  rintro e w4 ⟨⟨XM, Xr, rfl, hA, hP⟩, hb⟩
  have X_4 : Hid (AB w3.heap.size w4 XM l0.length Xr) := hA.down (by first | omega | (simp; omega))
  have XP : Hid (pals Xr = l0) := hP
  have XR : Hid (∀ k, blks XM Xr k → w3.heap.size + 1 < k ∧ k < w4.heap.size) := fun k hk => by have := rng hA k hk; simp at this; omega
  have U_X : Hid (w3.heap.size ≤ XM ∧ XM < w4.heap.size) := ⟨X_4.out.at', X_4.out.lt⟩
  clear hA hP
  have W0_4 : Hid (Blk w4 w3.heap.size #[.slice Wa Wr.length Wc, .bool false] 26) := ((Blk.new _ _ _).alloc _).grow hb
  have U_W0 : Hid (w3.heap.size ≤ w3.heap.size ∧ w3.heap.size < w4.heap.size) := ⟨by omega, W0_4.out.lt⟩
  have W1_4 : Hid (Blk w4 (w3.heap.size + 1) #[.slice Wx HX.l.length Wy, .int .i64 HX.s, .int .i64 HX.e, .string HX.n] 29) := (Blk.new_at (by simp)).grow hb
  have U_W1 : Hid (w3.heap.size ≤ (w3.heap.size + 1) ∧ (w3.heap.size + 1) < w4.heap.size) := ⟨by omega, W1_4.out.lt⟩
  replace hb := grow_on (Go.Joins.below_alloc2 w3 _ _) hb
  have B4 : Hid (Below w.heap.size w w4) := grow_on B3.out hb
  have Z4 : Hid (w3.heap.size ≤ w4.heap.size) := hb.size
  have P0_4 : Hid (Blk w4 w.heap.size #[.slice a0 l0.length cap0, .bool b0] 52) := P0_3.out.grow hb
  have W_4 : Hid (AQ w2.heap.size w4 Wa Wr) := W_3.out.grow hb
  have WY_4 : Hid (YQ w2.heap.size w4 Wx HX) := WY_3.out.grow hb
  clear hb cP00 cP01
  have cP00 : (w4.alloc (.cells #[.slice (some ⟨XM, 0, none⟩) l0.length l0.length, .bool b0] 26)).cell? ⟨w.heap.size, 0, none⟩ = some (.slice a0 l0.length cap0) := ((P0_4.out.alloc _)).cell 0
  have cP01 : (w4.alloc (.cells #[.slice (some ⟨XM, 0, none⟩) l0.length l0.length, .bool b0] 26)).cell? ⟨w.heap.size, 1, none⟩ = some (.bool b0) := ((P0_4.out.alloc _)).cell 1
  have cW00 : (w4.alloc (.cells #[.slice (some ⟨XM, 0, none⟩) l0.length l0.length, .bool b0] 26)).cell? ⟨w3.heap.size, 0, none⟩ = some (.slice Wa Wr.length Wc) := ((W0_4.out.alloc _)).cell 0
  have cW01 : (w4.alloc (.cells #[.slice (some ⟨XM, 0, none⟩) l0.length l0.length, .bool b0] 26)).cell? ⟨w3.heap.size, 1, none⟩ = some (.bool false) := ((W0_4.out.alloc _)).cell 1
  have cW10 : (w4.alloc (.cells #[.slice (some ⟨XM, 0, none⟩) l0.length l0.length, .bool b0] 26)).cell? ⟨(w3.heap.size + 1), 0, none⟩ = some (.slice Wx HX.l.length Wy) := ((W1_4.out.alloc _)).cell 0
  have cW11 : (w4.alloc (.cells #[.slice (some ⟨XM, 0, none⟩) l0.length l0.length, .bool b0] 26)).cell? ⟨(w3.heap.size + 1), 1, none⟩ = some (.int .i64 HX.s) := ((W1_4.out.alloc _)).cell 1
  have cW12 : (w4.alloc (.cells #[.slice (some ⟨XM, 0, none⟩) l0.length l0.length, .bool b0] 26)).cell? ⟨(w3.heap.size + 1), 2, none⟩ = some (.int .i64 HX.e) := ((W1_4.out.alloc _)).cell 2
  have cW13 : (w4.alloc (.cells #[.slice (some ⟨XM, 0, none⟩) l0.length l0.length, .bool b0] 26)).cell? ⟨(w3.heap.size + 1), 3, none⟩ = some (.string HX.n) := ((W1_4.out.alloc _)).cell 3
  go_wp2_with fail
  refine (implH _ _ l0 b0 HL HX HN HH.out _ ((rdP X_4.out XP.out).rd.below (Go.Joins.below_alloc1 w4 _)) K0.out.1 N0.out).mono ?_
  rintro e w5 ⟨⟨Ga, Gc, Gx, Gy, Gr, rfl, hA, hP, hY, hD⟩, hb⟩
  have G_5 : Hid (AQ w4.heap.size w5 Ga Gr) := hA.down (by first | exact Nat.le_refl _ | simp)
  have GY_5 : Hid (YQ w4.heap.size w5 Gx HX) := hY.down (by first | exact Nat.le_refl _ | simp)
  have GP : Hid (pals Gr = HL) := hP
  have GR : Hid (∀ k, blksA Ga Gr k → w4.heap.size < k ∧ k < w5.heap.size) := fun k hk => by have := hA.rng k hk; (try simp at this); omega
  have GYR : Hid (∀ k, blkY Gx k → w4.heap.size < k ∧ k < w5.heap.size) := fun k hk => by have := hY.rng k hk; (try simp at this); omega
  have GL : Hid (∀ x ∈ Gr, x.2.2.l.length ≤ 1048576) := hA.len
  have GD : Hid (∀ k, blksA Ga Gr k → ¬ blkY Gx k) := hD
  clear hD
  clear hA hP hY
  have Q0_5 : Hid (Blk w5 w4.heap.size #[.slice (some ⟨XM, 0, none⟩) l0.length l0.length, .bool b0] 26) := (Blk.new _ _ _).grow hb
  have U_Q0 : Hid (w4.heap.size ≤ w4.heap.size ∧ w4.heap.size < w5.heap.size) := ⟨by omega, Q0_5.out.lt⟩
  replace hb := grow_on (Go.Joins.below_alloc1 w4 _) hb
  have B5 : Hid (Below w.heap.size w w5) := grow_on B4.out hb
  have Z5 : Hid (w4.heap.size ≤ w5.heap.size) := hb.size
  have P0_5 : Hid (Blk w5 w.heap.size #[.slice a0 l0.length cap0, .bool b0] 52) := P0_4.out.grow hb
  have W_5 : Hid (AQ w2.heap.size w5 Wa Wr) := W_4.out.grow hb
  have WY_5 : Hid (YQ w2.heap.size w5 Wx HX) := WY_4.out.grow hb
  have W0_5 : Hid (Blk w5 w3.heap.size #[.slice Wa Wr.length Wc, .bool false] 26) := W0_4.out.grow hb
  have W1_5 : Hid (Blk w5 (w3.heap.size + 1) #[.slice Wx HX.l.length Wy, .int .i64 HX.s, .int .i64 HX.e, .string HX.n] 29) := W1_4.out.grow hb
  have X_5 : Hid (AB w3.heap.size w5 XM l0.length Xr) := X_4.out.grow hb
  clear hb cP00 cP01 cW00 cW01 cW10 cW11 cW12 cW13
  have cP00 : ((w5.alloc (.cells #[.slice Ga Gr.length Gc, .bool false] 26)).alloc (.cells #[.slice Gx HX.l.length Gy, .int .i64 HX.s, .int .i64 HX.e, .string HX.n] 29)).cell? ⟨w.heap.size, 0, none⟩ = some (.slice a0 l0.length cap0) := (((P0_5.out.alloc _).alloc _)).cell 0
  have cP01 : ((w5.alloc (.cells #[.slice Ga Gr.length Gc, .bool false] 26)).alloc (.cells #[.slice Gx HX.l.length Gy, .int .i64 HX.s, .int .i64 HX.e, .string HX.n] 29)).cell? ⟨w.heap.size, 1, none⟩ = some (.bool b0) := (((P0_5.out.alloc _).alloc _)).cell 1
  have cW00 : ((w5.alloc (.cells #[.slice Ga Gr.length Gc, .bool false] 26)).alloc (.cells #[.slice Gx HX.l.length Gy, .int .i64 HX.s, .int .i64 HX.e, .string HX.n] 29)).cell? ⟨w3.heap.size, 0, none⟩ = some (.slice Wa Wr.length Wc) := (((W0_5.out.alloc _).alloc _)).cell 0
  have cW01 : ((w5.alloc (.cells #[.slice Ga Gr.length Gc, .bool false] 26)).alloc (.cells #[.slice Gx HX.l.length Gy, .int .i64 HX.s, .int .i64 HX.e, .string HX.n] 29)).cell? ⟨w3.heap.size, 1, none⟩ = some (.bool false) := (((W0_5.out.alloc _).alloc _)).cell 1
  have cW10 : ((w5.alloc (.cells #[.slice Ga Gr.length Gc, .bool false] 26)).alloc (.cells #[.slice Gx HX.l.length Gy, .int .i64 HX.s, .int .i64 HX.e, .string HX.n] 29)).cell? ⟨(w3.heap.size + 1), 0, none⟩ = some (.slice Wx HX.l.length Wy) := (((W1_5.out.alloc _).alloc _)).cell 0
  have cW11 : ((w5.alloc (.cells #[.slice Ga Gr.length Gc, .bool false] 26)).alloc (.cells #[.slice Gx HX.l.length Gy, .int .i64 HX.s, .int .i64 HX.e, .string HX.n] 29)).cell? ⟨(w3.heap.size + 1), 1, none⟩ = some (.int .i64 HX.s) := (((W1_5.out.alloc _).alloc _)).cell 1
  have cW12 : ((w5.alloc (.cells #[.slice Ga Gr.length Gc, .bool false] 26)).alloc (.cells #[.slice Gx HX.l.length Gy, .int .i64 HX.s, .int .i64 HX.e, .string HX.n] 29)).cell? ⟨(w3.heap.size + 1), 2, none⟩ = some (.int .i64 HX.e) := (((W1_5.out.alloc _).alloc _)).cell 2
  have cW13 : ((w5.alloc (.cells #[.slice Ga Gr.length Gc, .bool false] 26)).alloc (.cells #[.slice Gx HX.l.length Gy, .int .i64 HX.s, .int .i64 HX.e, .string HX.n] 29)).cell? ⟨(w3.heap.size + 1), 3, none⟩ = some (.string HX.n) := (((W1_5.out.alloc _).alloc _)).cell 3
  have cQ00 : ((w5.alloc (.cells #[.slice Ga Gr.length Gc, .bool false] 26)).alloc (.cells #[.slice Gx HX.l.length Gy, .int .i64 HX.s, .int .i64 HX.e, .string HX.n] 29)).cell? ⟨w4.heap.size, 0, none⟩ = some (.slice (some ⟨XM, 0, none⟩) l0.length l0.length) := (((Q0_5.out.alloc _).alloc _)).cell 0
  have cQ01 : ((w5.alloc (.cells #[.slice Ga Gr.length Gc, .bool false] 26)).alloc (.cells #[.slice Gx HX.l.length Gy, .int .i64 HX.s, .int .i64 HX.e, .string HX.n] 29)).cell? ⟨w4.heap.size, 1, none⟩ = some (.bool b0) := (((Q0_5.out.alloc _).alloc _)).cell 1
  go_wp2_with fail
  refine (eqR_any false _ _ _ _ Gr Wr HL _ (G_5.out.rd.below (Go.Joins.below_alloc2 w5 _ _)) (W_5.out.rd.below (Go.Joins.below_alloc2 w5 _ _)) GP.out WP.out PL.out.1 PL.out.2.1).mono ?_
  rintro e w6 ⟨rfl, hb⟩
  have G0_6 : Hid (Blk w6 w5.heap.size #[.slice Ga Gr.length Gc, .bool false] 26) := ((Blk.new _ _ _).alloc _).grow hb
  have U_G0 : Hid (w5.heap.size ≤ w5.heap.size ∧ w5.heap.size < w6.heap.size) := ⟨by omega, G0_6.out.lt⟩
  have G1_6 : Hid (Blk w6 (w5.heap.size + 1) #[.slice Gx HX.l.length Gy, .int .i64 HX.s, .int .i64 HX.e, .string HX.n] 29) := (Blk.new_at (by simp)).grow hb
  have U_G1 : Hid (w5.heap.size ≤ (w5.heap.size + 1) ∧ (w5.heap.size + 1) < w6.heap.size) := ⟨by omega, G1_6.out.lt⟩
  replace hb := grow_on (Go.Joins.below_alloc2 w5 _ _) hb
  have B6 : Hid (Below w.heap.size w w6) := grow_on B5.out hb
  have Z6 : Hid (w5.heap.size ≤ w6.heap.size) := hb.size
  have P0_6 : Hid (Blk w6 w.heap.size #[.slice a0 l0.length cap0, .bool b0] 52) := P0_5.out.grow hb
  have W_6 : Hid (AQ w2.heap.size w6 Wa Wr) := W_5.out.grow hb
  have WY_6 : Hid (YQ w2.heap.size w6 Wx HX) := WY_5.out.grow hb
  have W0_6 : Hid (Blk w6 w3.heap.size #[.slice Wa Wr.length Wc, .bool false] 26) := W0_5.out.grow hb
  have W1_6 : Hid (Blk w6 (w3.heap.size + 1) #[.slice Wx HX.l.length Wy, .int .i64 HX.s, .int .i64 HX.e, .string HX.n] 29) := W1_5.out.grow hb
  have X_6 : Hid (AB w3.heap.size w6 XM l0.length Xr) := X_5.out.grow hb
  have Q0_6 : Hid (Blk w6 w4.heap.size #[.slice (some ⟨XM, 0, none⟩) l0.length l0.length, .bool b0] 26) := Q0_5.out.grow hb
  have G_6 : Hid (AQ w4.heap.size w6 Ga Gr) := G_5.out.grow hb
  have GY_6 : Hid (YQ w4.heap.size w6 Gx HX) := GY_5.out.grow hb
  clear hb cP00 cP01 cW00 cW01 cW10 cW11 cW12 cW13 cQ00 cQ01
  have cP00 : w6.cell? ⟨w.heap.size, 0, none⟩ = some (.slice a0 l0.length cap0) := (P0_6.out).cell 0
  have cP01 : w6.cell? ⟨w.heap.size, 1, none⟩ = some (.bool b0) := (P0_6.out).cell 1
  have cW00 : w6.cell? ⟨w3.heap.size, 0, none⟩ = some (.slice Wa Wr.length Wc) := (W0_6.out).cell 0
  have cW01 : w6.cell? ⟨w3.heap.size, 1, none⟩ = some (.bool false) := (W0_6.out).cell 1
  have cW10 : w6.cell? ⟨(w3.heap.size + 1), 0, none⟩ = some (.slice Wx HX.l.length Wy) := (W1_6.out).cell 0
  have cW11 : w6.cell? ⟨(w3.heap.size + 1), 1, none⟩ = some (.int .i64 HX.s) := (W1_6.out).cell 1
  have cW12 : w6.cell? ⟨(w3.heap.size + 1), 2, none⟩ = some (.int .i64 HX.e) := (W1_6.out).cell 2
  have cW13 : w6.cell? ⟨(w3.heap.size + 1), 3, none⟩ = some (.string HX.n) := (W1_6.out).cell 3
  have cQ00 : w6.cell? ⟨w4.heap.size, 0, none⟩ = some (.slice (some ⟨XM, 0, none⟩) l0.length l0.length) := (Q0_6.out).cell 0
  have cQ01 : w6.cell? ⟨w4.heap.size, 1, none⟩ = some (.bool b0) := (Q0_6.out).cell 1
  have cG00 : w6.cell? ⟨w5.heap.size, 0, none⟩ = some (.slice Ga Gr.length Gc) := (G0_6.out).cell 0
  have cG01 : w6.cell? ⟨w5.heap.size, 1, none⟩ = some (.bool false) := (G0_6.out).cell 1
  have cG10 : w6.cell? ⟨(w5.heap.size + 1), 0, none⟩ = some (.slice Gx HX.l.length Gy) := (G1_6.out).cell 0
  have cG11 : w6.cell? ⟨(w5.heap.size + 1), 1, none⟩ = some (.int .i64 HX.s) := (G1_6.out).cell 1
  have cG12 : w6.cell? ⟨(w5.heap.size + 1), 2, none⟩ = some (.int .i64 HX.e) := (G1_6.out).cell 2
  have cG13 : w6.cell? ⟨(w5.heap.size + 1), 3, none⟩ = some (.string HX.n) := (G1_6.out).cell 3
  go_wp2_with fail
  refine (eqX_any HX _ _ _ _ _ GY_6.out.rd WY_6.out.rd PL.out.2.2.1).mono ?_
  rintro e w7 ⟨rfl, hb⟩
  have B7 : Hid (Below w.heap.size w w7) := grow_on B6.out hb
  have Z7 : Hid (w6.heap.size ≤ w7.heap.size) := hb.size
  have P0_7 : Hid (Blk w7 w.heap.size #[.slice a0 l0.length cap0, .bool b0] 52) := P0_6.out.grow hb
  have W_7 : Hid (AQ w2.heap.size w7 Wa Wr) := W_6.out.grow hb
  have WY_7 : Hid (YQ w2.heap.size w7 Wx HX) := WY_6.out.grow hb
  have W0_7 : Hid (Blk w7 w3.heap.size #[.slice Wa Wr.length Wc, .bool false] 26) := W0_6.out.grow hb
  have W1_7 : Hid (Blk w7 (w3.heap.size + 1) #[.slice Wx HX.l.length Wy, .int .i64 HX.s, .int .i64 HX.e, .string HX.n] 29) := W1_6.out.grow hb
  have X_7 : Hid (AB w3.heap.size w7 XM l0.length Xr) := X_6.out.grow hb
  have Q0_7 : Hid (Blk w7 w4.heap.size #[.slice (some ⟨XM, 0, none⟩) l0.length l0.length, .bool b0] 26) := Q0_6.out.grow hb
  have G_7 : Hid (AQ w4.heap.size w7 Ga Gr) := G_6.out.grow hb
  have GY_7 : Hid (YQ w4.heap.size w7 Gx HX) := GY_6.out.grow hb
  have G0_7 : Hid (Blk w7 w5.heap.size #[.slice Ga Gr.length Gc, .bool false] 26) := G0_6.out.grow hb
  have G1_7 : Hid (Blk w7 (w5.heap.size + 1) #[.slice Gx HX.l.length Gy, .int .i64 HX.s, .int .i64 HX.e, .string HX.n] 29) := G1_6.out.grow hb
  clear hb cP00 cP01 cW00 cW01 cW10 cW11 cW12 cW13 cQ00 cQ01 cG00 cG01 cG10 cG11 cG12 cG13
  have cP00 : w7.cell? ⟨w.heap.size, 0, none⟩ = some (.slice a0 l0.length cap0) := (P0_7.out).cell 0
  have cP01 : w7.cell? ⟨w.heap.size, 1, none⟩ = some (.bool b0) := (P0_7.out).cell 1
  have cQ00 : w7.cell? ⟨w4.heap.size, 0, none⟩ = some (.slice (some ⟨XM, 0, none⟩) l0.length l0.length) := (Q0_7.out).cell 0
  have cQ01 : w7.cell? ⟨w4.heap.size, 1, none⟩ = some (.bool b0) := (Q0_7.out).cell 1
  go_wp2
  have kz : Below w7.heap.size w7 w7.drew := (Below.refl _ _).drew
  have kP0 := P0_7.out.lt
  have kQ0 := Q0_7.out.lt
  have HS : Hid (∀ w', Below w7.heap.size w7 w' → Below w7.heap.size w7 w' ∧ w'.cell? ⟨w.heap.size, 0, none⟩ = some (.slice a0 l0.length cap0) ∧ w'.cell? ⟨w.heap.size, 1, none⟩ = some (.bool b0) ∧ w'.cell? ⟨w4.heap.size, 0, none⟩ = some (.slice (some ⟨XM, 0, none⟩) l0.length l0.length) ∧ w'.cell? ⟨w4.heap.size, 1, none⟩ = some (.bool b0)) := fun w' h => ⟨h, (h.cell kP0).trans cP00, (h.cell kP0).trans cP01, (h.cell kQ0).trans cQ00, (h.cell kQ0).trans cQ01⟩
  go_region_held3 (fun w' => Below w7.heap.size w7 w' ∧ w'.cell? ⟨w.heap.size, 0, none⟩ = some (.slice a0 l0.length cap0) ∧ w'.cell? ⟨w.heap.size, 1, none⟩ = some (.bool b0) ∧ w'.cell? ⟨w4.heap.size, 0, none⟩ = some (.slice (some ⟨XM, 0, none⟩) l0.length l0.length) ∧ w'.cell? ⟨w4.heap.size, 1, none⟩ = some (.bool b0)) (first | with_reducible exact HS.out _ kz | with_reducible exact HS.out _ (grow_on kz hy0) | with_reducible exact HS.out _ (grow_on (grow_on kz hy0) hy1) | (go_keep; done)) (first | (go_at_call 32; with_reducible refine (Sub.to_any b0 a0 cap0 l0 _ (R0.out.below (grow_on B7.out kz)) K0.out.1 K0.out.2.1).mono ?_; rintro e wy ⟨⟨EM, Er, rfl, hA, hP⟩, hy0⟩) | (go_at_call 33; refine (Sub.eq_any b0 _ _ _ _ l0 _ ((rdP X_7.out XP.out).rd.below (grow_on kz hy0)) (rdP hA hP).rd M0.out F0.out).mono ?_; rintro e w8 ⟨rfl, hy1⟩))
  have hb := (grow_on (grow_on kz hy0) hy1)
  have B8 : Hid (Below w.heap.size w w8) := grow_on B7.out hb
  have Z8 : Hid (w7.heap.size ≤ w8.heap.size) := hb.size
  have P0_8 : Hid (Blk w8 w.heap.size #[.slice a0 l0.length cap0, .bool b0] 52) := P0_7.out.grow hb
  have W_8 : Hid (AQ w2.heap.size w8 Wa Wr) := W_7.out.grow hb
  have WY_8 : Hid (YQ w2.heap.size w8 Wx HX) := WY_7.out.grow hb
  have W0_8 : Hid (Blk w8 w3.heap.size #[.slice Wa Wr.length Wc, .bool false] 26) := W0_7.out.grow hb
  have W1_8 : Hid (Blk w8 (w3.heap.size + 1) #[.slice Wx HX.l.length Wy, .int .i64 HX.s, .int .i64 HX.e, .string HX.n] 29) := W1_7.out.grow hb
  have X_8 : Hid (AB w3.heap.size w8 XM l0.length Xr) := X_7.out.grow hb
  have Q0_8 : Hid (Blk w8 w4.heap.size #[.slice (some ⟨XM, 0, none⟩) l0.length l0.length, .bool b0] 26) := Q0_7.out.grow hb
  have G_8 : Hid (AQ w4.heap.size w8 Ga Gr) := G_7.out.grow hb
  have GY_8 : Hid (YQ w4.heap.size w8 Gx HX) := GY_7.out.grow hb
  have G0_8 : Hid (Blk w8 w5.heap.size #[.slice Ga Gr.length Gc, .bool false] 26) := G0_7.out.grow hb
  have G1_8 : Hid (Blk w8 (w5.heap.size + 1) #[.slice Gx HX.l.length Gy, .int .i64 HX.s, .int .i64 HX.e, .string HX.n] 29) := G1_7.out.grow hb
  clear hb kz HS hy0 hy1 kP0 kQ0 cP00 cP01 cQ00 cQ01 hA hP
  have XL : Hid (Xr.length = l0.length) := Que.len_of XP.out
  have XS : Hid (1 + sumA Xr ≤ 9000000) := by have := marks_le XP.out K0.out.1 K0.out.2.1 (by omega); show _ ≤ _; omega
  have hXM : Hid (Calls Try.prog 37 #[.agg #[.slice (some ⟨XM, 0, none⟩) l0.length l0.length, .bool b0], .int .i64 1] w8 fun e w' => e = .returned (.int .i64 ((1 + sumA Xr : Nat) : Int)) ∧ Only (blks XM Xr) w8 w') := by
    have h := (Sub.mark_any b0 XM 0 1 _ l0.length Xr w8 (AB.ao X_8.out) (by rw [XL.out]; have := K0.out.1; omega) (by omega) XS.out).mono (fun e w' h => (⟨h.1, h.2.2⟩ : e = .returned (.int .i64 ((1 + sumA Xr : Nat) : Int)) ∧ Only (blks XM Xr) w8 w'))
    rw [XL.out] at h
    exact h
  have cP00 : w8.cell? ⟨w.heap.size, 0, none⟩ = some (.slice a0 l0.length cap0) := (P0_8.out).cell 0
  have cP01 : w8.cell? ⟨w.heap.size, 1, none⟩ = some (.bool b0) := (P0_8.out).cell 1
  have cW00 : w8.cell? ⟨w3.heap.size, 0, none⟩ = some (.slice Wa Wr.length Wc) := (W0_8.out).cell 0
  have cW01 : w8.cell? ⟨w3.heap.size, 1, none⟩ = some (.bool false) := (W0_8.out).cell 1
  have cW10 : w8.cell? ⟨(w3.heap.size + 1), 0, none⟩ = some (.slice Wx HX.l.length Wy) := (W1_8.out).cell 0
  have cW11 : w8.cell? ⟨(w3.heap.size + 1), 1, none⟩ = some (.int .i64 HX.s) := (W1_8.out).cell 1
  have cW12 : w8.cell? ⟨(w3.heap.size + 1), 2, none⟩ = some (.int .i64 HX.e) := (W1_8.out).cell 2
  have cW13 : w8.cell? ⟨(w3.heap.size + 1), 3, none⟩ = some (.string HX.n) := (W1_8.out).cell 3
  have cQ00 : w8.cell? ⟨w4.heap.size, 0, none⟩ = some (.slice (some ⟨XM, 0, none⟩) l0.length l0.length) := (Q0_8.out).cell 0
  have cQ01 : w8.cell? ⟨w4.heap.size, 1, none⟩ = some (.bool b0) := (Q0_8.out).cell 1
  have cG00 : w8.cell? ⟨w5.heap.size, 0, none⟩ = some (.slice Ga Gr.length Gc) := (G0_8.out).cell 0
  have cG01 : w8.cell? ⟨w5.heap.size, 1, none⟩ = some (.bool false) := (G0_8.out).cell 1
  have cG10 : w8.cell? ⟨(w5.heap.size + 1), 0, none⟩ = some (.slice Gx HX.l.length Gy) := (G1_8.out).cell 0
  have cG11 : w8.cell? ⟨(w5.heap.size + 1), 1, none⟩ = some (.int .i64 HX.s) := (G1_8.out).cell 1
  have cG12 : w8.cell? ⟨(w5.heap.size + 1), 2, none⟩ = some (.int .i64 HX.e) := (G1_8.out).cell 2
  have cG13 : w8.cell? ⟨(w5.heap.size + 1), 3, none⟩ = some (.string HX.n) := (G1_8.out).cell 3
  go_wp2_with fail
  refine (hXM.out).mono ?_
  rintro e w9 ⟨rfl, ho⟩
  have B9 : Hid (Below w.heap.size w w9) := B8.out.trans (ho.low (fun k hk => by have hx := XR.out k hk; have hw := B3.out.size; omega) B8.out.size)
  have Z9 : Hid (w8.heap.size ≤ w9.heap.size) := ho.size
  have P0_9 : Hid (Blk w9 w.heap.size #[.slice a0 l0.length cap0, .bool b0] 52) := ho.blk P0_8.out (fun hs => by have hx := XR.out _ hs; have h0 := Z1.out; have h1 := Z2.out; have h2 := Z3.out; have h3 := Z4.out; have h4 := Z5.out; have h5 := Z6.out; have h6 := Z7.out; have h7 := Z8.out; have h8 := Z9.out; have h9 := U_P0.out; have h10 := U_S.out; have h11 := U_W0.out; have h12 := U_W1.out; have h13 := U_X.out; have h14 := U_Q0.out; have h15 := U_G0.out; have h16 := U_G1.out; omega)
  have W_9 : Hid (AQ w2.heap.size w9 Wa Wr) := aq_only W_8.out ho (fun k hk hs => by have hx := XR.out k hs; have hy := WR.out k hk; have h0 := Z1.out; have h1 := Z2.out; have h2 := Z3.out; have h3 := Z4.out; have h4 := Z5.out; have h5 := Z6.out; have h6 := Z7.out; have h7 := Z8.out; have h8 := Z9.out; have h9 := U_P0.out; have h10 := U_S.out; have h11 := U_W0.out; have h12 := U_W1.out; have h13 := U_X.out; have h14 := U_Q0.out; have h15 := U_G0.out; have h16 := U_G1.out; omega)
  have WY_9 : Hid (YQ w2.heap.size w9 Wx HX) := yq_only WY_8.out ho (fun k hk hs => by have hx := XR.out k hs; have hy := WYR.out k hk; have h0 := Z1.out; have h1 := Z2.out; have h2 := Z3.out; have h3 := Z4.out; have h4 := Z5.out; have h5 := Z6.out; have h6 := Z7.out; have h7 := Z8.out; have h8 := Z9.out; have h9 := U_P0.out; have h10 := U_S.out; have h11 := U_W0.out; have h12 := U_W1.out; have h13 := U_X.out; have h14 := U_Q0.out; have h15 := U_G0.out; have h16 := U_G1.out; omega)
  have W0_9 : Hid (Blk w9 w3.heap.size #[.slice Wa Wr.length Wc, .bool false] 26) := ho.blk W0_8.out (fun hs => by have hx := XR.out _ hs; have h0 := Z1.out; have h1 := Z2.out; have h2 := Z3.out; have h3 := Z4.out; have h4 := Z5.out; have h5 := Z6.out; have h6 := Z7.out; have h7 := Z8.out; have h8 := Z9.out; have h9 := U_P0.out; have h10 := U_S.out; have h11 := U_W0.out; have h12 := U_W1.out; have h13 := U_X.out; have h14 := U_Q0.out; have h15 := U_G0.out; have h16 := U_G1.out; omega)
  have W1_9 : Hid (Blk w9 (w3.heap.size + 1) #[.slice Wx HX.l.length Wy, .int .i64 HX.s, .int .i64 HX.e, .string HX.n] 29) := ho.blk W1_8.out (fun hs => by have hx := XR.out _ hs; have h0 := Z1.out; have h1 := Z2.out; have h2 := Z3.out; have h3 := Z4.out; have h4 := Z5.out; have h5 := Z6.out; have h6 := Z7.out; have h7 := Z8.out; have h8 := Z9.out; have h9 := U_P0.out; have h10 := U_S.out; have h11 := U_W0.out; have h12 := U_W1.out; have h13 := U_X.out; have h14 := U_Q0.out; have h15 := U_G0.out; have h16 := U_G1.out; omega)
  have G_9 : Hid (AQ w4.heap.size w9 Ga Gr) := aq_only G_8.out ho (fun k hk hs => by have hx := XR.out k hs; have hy := GR.out k hk; have h0 := Z1.out; have h1 := Z2.out; have h2 := Z3.out; have h3 := Z4.out; have h4 := Z5.out; have h5 := Z6.out; have h6 := Z7.out; have h7 := Z8.out; have h8 := Z9.out; have h9 := U_P0.out; have h10 := U_S.out; have h11 := U_W0.out; have h12 := U_W1.out; have h13 := U_X.out; have h14 := U_Q0.out; have h15 := U_G0.out; have h16 := U_G1.out; omega)
  have GY_9 : Hid (YQ w4.heap.size w9 Gx HX) := yq_only GY_8.out ho (fun k hk hs => by have hx := XR.out k hs; have hy := GYR.out k hk; have h0 := Z1.out; have h1 := Z2.out; have h2 := Z3.out; have h3 := Z4.out; have h4 := Z5.out; have h5 := Z6.out; have h6 := Z7.out; have h7 := Z8.out; have h8 := Z9.out; have h9 := U_P0.out; have h10 := U_S.out; have h11 := U_W0.out; have h12 := U_W1.out; have h13 := U_X.out; have h14 := U_Q0.out; have h15 := U_G0.out; have h16 := U_G1.out; omega)
  have G0_9 : Hid (Blk w9 w5.heap.size #[.slice Ga Gr.length Gc, .bool false] 26) := ho.blk G0_8.out (fun hs => by have hx := XR.out _ hs; have h0 := Z1.out; have h1 := Z2.out; have h2 := Z3.out; have h3 := Z4.out; have h4 := Z5.out; have h5 := Z6.out; have h6 := Z7.out; have h7 := Z8.out; have h8 := Z9.out; have h9 := U_P0.out; have h10 := U_S.out; have h11 := U_W0.out; have h12 := U_W1.out; have h13 := U_X.out; have h14 := U_Q0.out; have h15 := U_G0.out; have h16 := U_G1.out; omega)
  have G1_9 : Hid (Blk w9 (w5.heap.size + 1) #[.slice Gx HX.l.length Gy, .int .i64 HX.s, .int .i64 HX.e, .string HX.n] 29) := ho.blk G1_8.out (fun hs => by have hx := XR.out _ hs; have h0 := Z1.out; have h1 := Z2.out; have h2 := Z3.out; have h3 := Z4.out; have h4 := Z5.out; have h5 := Z6.out; have h6 := Z7.out; have h7 := Z8.out; have h8 := Z9.out; have h9 := U_P0.out; have h10 := U_S.out; have h11 := U_W0.out; have h12 := U_W1.out; have h13 := U_X.out; have h14 := U_Q0.out; have h15 := U_G0.out; have h16 := U_G1.out; omega)
  clear ho cP00 cP01 cW00 cW01 cW10 cW11 cW12 cW13 cQ00 cQ01 cG00 cG01 cG10 cG11 cG12 cG13
  have hq : ¬ ((1 + sumA Xr : Nat) : Int) < 0 := by omega
  generalize 1 + sumA Xr = m1 at hq ⊢
  have cP00 : w9.cell? ⟨w.heap.size, 0, none⟩ = some (.slice a0 l0.length cap0) := (P0_9.out).cell 0
  have cP01 : w9.cell? ⟨w.heap.size, 1, none⟩ = some (.bool b0) := (P0_9.out).cell 1
  have cW00 : w9.cell? ⟨w3.heap.size, 0, none⟩ = some (.slice Wa Wr.length Wc) := (W0_9.out).cell 0
  have cW01 : w9.cell? ⟨w3.heap.size, 1, none⟩ = some (.bool false) := (W0_9.out).cell 1
  have cW10 : w9.cell? ⟨(w3.heap.size + 1), 0, none⟩ = some (.slice Wx HX.l.length Wy) := (W1_9.out).cell 0
  have cW11 : w9.cell? ⟨(w3.heap.size + 1), 1, none⟩ = some (.int .i64 HX.s) := (W1_9.out).cell 1
  have cW12 : w9.cell? ⟨(w3.heap.size + 1), 2, none⟩ = some (.int .i64 HX.e) := (W1_9.out).cell 2
  have cW13 : w9.cell? ⟨(w3.heap.size + 1), 3, none⟩ = some (.string HX.n) := (W1_9.out).cell 3
  have cG00 : w9.cell? ⟨w5.heap.size, 0, none⟩ = some (.slice Ga Gr.length Gc) := (G0_9.out).cell 0
  have cG01 : w9.cell? ⟨w5.heap.size, 1, none⟩ = some (.bool false) := (G0_9.out).cell 1
  have cG10 : w9.cell? ⟨(w5.heap.size + 1), 0, none⟩ = some (.slice Gx HX.l.length Gy) := (G1_9.out).cell 0
  have cG11 : w9.cell? ⟨(w5.heap.size + 1), 1, none⟩ = some (.int .i64 HX.s) := (G1_9.out).cell 1
  have cG12 : w9.cell? ⟨(w5.heap.size + 1), 2, none⟩ = some (.int .i64 HX.e) := (G1_9.out).cell 2
  have cG13 : w9.cell? ⟨(w5.heap.size + 1), 3, none⟩ = some (.string HX.n) := (G1_9.out).cell 3
  go_wp2_with fail
  refine (eqR_any false _ _ _ _ Gr Wr HL _ (G_9.out.rd) (W_9.out.rd) GP.out WP.out PL.out.1 PL.out.2.1).mono ?_
  rintro e w10 ⟨rfl, hb⟩
  have B10 : Hid (Below w.heap.size w w10) := grow_on B9.out hb
  have Z10 : Hid (w9.heap.size ≤ w10.heap.size) := hb.size
  have P0_10 : Hid (Blk w10 w.heap.size #[.slice a0 l0.length cap0, .bool b0] 52) := P0_9.out.grow hb
  have W_10 : Hid (AQ w2.heap.size w10 Wa Wr) := W_9.out.grow hb
  have WY_10 : Hid (YQ w2.heap.size w10 Wx HX) := WY_9.out.grow hb
  have W0_10 : Hid (Blk w10 w3.heap.size #[.slice Wa Wr.length Wc, .bool false] 26) := W0_9.out.grow hb
  have W1_10 : Hid (Blk w10 (w3.heap.size + 1) #[.slice Wx HX.l.length Wy, .int .i64 HX.s, .int .i64 HX.e, .string HX.n] 29) := W1_9.out.grow hb
  have G_10 : Hid (AQ w4.heap.size w10 Ga Gr) := G_9.out.grow hb
  have GY_10 : Hid (YQ w4.heap.size w10 Gx HX) := GY_9.out.grow hb
  have G0_10 : Hid (Blk w10 w5.heap.size #[.slice Ga Gr.length Gc, .bool false] 26) := G0_9.out.grow hb
  have G1_10 : Hid (Blk w10 (w5.heap.size + 1) #[.slice Gx HX.l.length Gy, .int .i64 HX.s, .int .i64 HX.e, .string HX.n] 29) := G1_9.out.grow hb
  clear hb cP00 cP01 cW00 cW01 cW10 cW11 cW12 cW13 cG00 cG01 cG10 cG11 cG12 cG13
  have cP00 : w10.cell? ⟨w.heap.size, 0, none⟩ = some (.slice a0 l0.length cap0) := (P0_10.out).cell 0
  have cP01 : w10.cell? ⟨w.heap.size, 1, none⟩ = some (.bool b0) := (P0_10.out).cell 1
  have cW00 : w10.cell? ⟨w3.heap.size, 0, none⟩ = some (.slice Wa Wr.length Wc) := (W0_10.out).cell 0
  have cW01 : w10.cell? ⟨w3.heap.size, 1, none⟩ = some (.bool false) := (W0_10.out).cell 1
  have cW10 : w10.cell? ⟨(w3.heap.size + 1), 0, none⟩ = some (.slice Wx HX.l.length Wy) := (W1_10.out).cell 0
  have cW11 : w10.cell? ⟨(w3.heap.size + 1), 1, none⟩ = some (.int .i64 HX.s) := (W1_10.out).cell 1
  have cW12 : w10.cell? ⟨(w3.heap.size + 1), 2, none⟩ = some (.int .i64 HX.e) := (W1_10.out).cell 2
  have cW13 : w10.cell? ⟨(w3.heap.size + 1), 3, none⟩ = some (.string HX.n) := (W1_10.out).cell 3
  have cG00 : w10.cell? ⟨w5.heap.size, 0, none⟩ = some (.slice Ga Gr.length Gc) := (G0_10.out).cell 0
  have cG01 : w10.cell? ⟨w5.heap.size, 1, none⟩ = some (.bool false) := (G0_10.out).cell 1
  have cG10 : w10.cell? ⟨(w5.heap.size + 1), 0, none⟩ = some (.slice Gx HX.l.length Gy) := (G1_10.out).cell 0
  have cG11 : w10.cell? ⟨(w5.heap.size + 1), 1, none⟩ = some (.int .i64 HX.s) := (G1_10.out).cell 1
  have cG12 : w10.cell? ⟨(w5.heap.size + 1), 2, none⟩ = some (.int .i64 HX.e) := (G1_10.out).cell 2
  have cG13 : w10.cell? ⟨(w5.heap.size + 1), 3, none⟩ = some (.string HX.n) := (G1_10.out).cell 3
  go_wp2_with fail
  refine (eqX_any HX _ _ _ _ _ GY_10.out.rd WY_10.out.rd PL.out.2.2.1).mono ?_
  rintro e w11 ⟨rfl, hb⟩
  have B11 : Hid (Below w.heap.size w w11) := grow_on B10.out hb
  have Z11 : Hid (w10.heap.size ≤ w11.heap.size) := hb.size
  have P0_11 : Hid (Blk w11 w.heap.size #[.slice a0 l0.length cap0, .bool b0] 52) := P0_10.out.grow hb
  have W_11 : Hid (AQ w2.heap.size w11 Wa Wr) := W_10.out.grow hb
  have WY_11 : Hid (YQ w2.heap.size w11 Wx HX) := WY_10.out.grow hb
  have W0_11 : Hid (Blk w11 w3.heap.size #[.slice Wa Wr.length Wc, .bool false] 26) := W0_10.out.grow hb
  have W1_11 : Hid (Blk w11 (w3.heap.size + 1) #[.slice Wx HX.l.length Wy, .int .i64 HX.s, .int .i64 HX.e, .string HX.n] 29) := W1_10.out.grow hb
  have G_11 : Hid (AQ w4.heap.size w11 Ga Gr) := G_10.out.grow hb
  have GY_11 : Hid (YQ w4.heap.size w11 Gx HX) := GY_10.out.grow hb
  have G0_11 : Hid (Blk w11 w5.heap.size #[.slice Ga Gr.length Gc, .bool false] 26) := G0_10.out.grow hb
  have G1_11 : Hid (Blk w11 (w5.heap.size + 1) #[.slice Gx HX.l.length Gy, .int .i64 HX.s, .int .i64 HX.e, .string HX.n] 29) := G1_10.out.grow hb
  clear hb cP00 cP01 cW00 cW01 cW10 cW11 cW12 cW13 cG00 cG01 cG10 cG11 cG12 cG13
  clear hq
  have GS : Hid (1 + sumA Gr ≤ 9000000 ∧ Gr.length ≤ 2000000) := by have := marks_le GP.out PS.out.1 (Nat.le_trans (Nat.le_add_right _ _) PS.out.2) (by omega); have h2 := Que.len_of GP.out; have h3 := PS.out.1; exact ⟨by omega, by omega⟩
  have cP00 : w11.cell? ⟨w.heap.size, 0, none⟩ = some (.slice a0 l0.length cap0) := (P0_11.out).cell 0
  have cP01 : w11.cell? ⟨w.heap.size, 1, none⟩ = some (.bool b0) := (P0_11.out).cell 1
  have cW00 : w11.cell? ⟨w3.heap.size, 0, none⟩ = some (.slice Wa Wr.length Wc) := (W0_11.out).cell 0
  have cW01 : w11.cell? ⟨w3.heap.size, 1, none⟩ = some (.bool false) := (W0_11.out).cell 1
  have cW10 : w11.cell? ⟨(w3.heap.size + 1), 0, none⟩ = some (.slice Wx HX.l.length Wy) := (W1_11.out).cell 0
  have cW11 : w11.cell? ⟨(w3.heap.size + 1), 1, none⟩ = some (.int .i64 HX.s) := (W1_11.out).cell 1
  have cW12 : w11.cell? ⟨(w3.heap.size + 1), 2, none⟩ = some (.int .i64 HX.e) := (W1_11.out).cell 2
  have cW13 : w11.cell? ⟨(w3.heap.size + 1), 3, none⟩ = some (.string HX.n) := (W1_11.out).cell 3
  have cG00 : w11.cell? ⟨w5.heap.size, 0, none⟩ = some (.slice Ga Gr.length Gc) := (G0_11.out).cell 0
  have cG01 : w11.cell? ⟨w5.heap.size, 1, none⟩ = some (.bool false) := (G0_11.out).cell 1
  have cG10 : w11.cell? ⟨(w5.heap.size + 1), 0, none⟩ = some (.slice Gx HX.l.length Gy) := (G1_11.out).cell 0
  have cG11 : w11.cell? ⟨(w5.heap.size + 1), 1, none⟩ = some (.int .i64 HX.s) := (G1_11.out).cell 1
  have cG12 : w11.cell? ⟨(w5.heap.size + 1), 2, none⟩ = some (.int .i64 HX.e) := (G1_11.out).cell 2
  have cG13 : w11.cell? ⟨(w5.heap.size + 1), 3, none⟩ = some (.string HX.n) := (G1_11.out).cell 3
  go_wp2_with fail
  refine (markQ_any false Ga 1 _ Gc Gr w11 G_11.out GS.out.2 (by omega) GS.out.1).mono ?_
  rintro e w12 ⟨rfl, hm, ho⟩
  have B12 : Hid (Below w.heap.size w w12) := B11.out.trans (ho.low (fun k hk => by have hx := GR.out k hk; have hw := B4.out.size; have h0 := Z1.out; have h1 := Z2.out; have h2 := Z3.out; have h3 := Z4.out; have h4 := Z5.out; have h5 := Z6.out; have h6 := Z7.out; have h7 := Z8.out; have h8 := Z9.out; have h9 := Z10.out; have h10 := Z11.out; have h11 := U_P0.out; have h12 := U_S.out; have h13 := U_W0.out; have h14 := U_W1.out; have h15 := U_X.out; have h16 := U_Q0.out; have h17 := U_G0.out; have h18 := U_G1.out; omega) B11.out.size)
  have Z12 : Hid (w11.heap.size ≤ w12.heap.size) := ho.size
  have P0_12 : Hid (Blk w12 w.heap.size #[.slice a0 l0.length cap0, .bool b0] 52) := ho.blk P0_11.out (fun hs => by have hx := GR.out _ hs; have h0 := Z1.out; have h1 := Z2.out; have h2 := Z3.out; have h3 := Z4.out; have h4 := Z5.out; have h5 := Z6.out; have h6 := Z7.out; have h7 := Z8.out; have h8 := Z9.out; have h9 := Z10.out; have h10 := Z11.out; have h11 := Z12.out; have h12 := U_P0.out; have h13 := U_S.out; have h14 := U_W0.out; have h15 := U_W1.out; have h16 := U_X.out; have h17 := U_Q0.out; have h18 := U_G0.out; have h19 := U_G1.out; omega)
  have W_12 : Hid (AQ w2.heap.size w12 Wa Wr) := aq_only W_11.out ho (fun k hk hs => by have hx := GR.out k hs; have hy := WR.out k hk; have h0 := Z1.out; have h1 := Z2.out; have h2 := Z3.out; have h3 := Z4.out; have h4 := Z5.out; have h5 := Z6.out; have h6 := Z7.out; have h7 := Z8.out; have h8 := Z9.out; have h9 := Z10.out; have h10 := Z11.out; have h11 := Z12.out; have h12 := U_P0.out; have h13 := U_S.out; have h14 := U_W0.out; have h15 := U_W1.out; have h16 := U_X.out; have h17 := U_Q0.out; have h18 := U_G0.out; have h19 := U_G1.out; omega)
  have WY_12 : Hid (YQ w2.heap.size w12 Wx HX) := yq_only WY_11.out ho (fun k hk hs => by have hx := GR.out k hs; have hy := WYR.out k hk; have h0 := Z1.out; have h1 := Z2.out; have h2 := Z3.out; have h3 := Z4.out; have h4 := Z5.out; have h5 := Z6.out; have h6 := Z7.out; have h7 := Z8.out; have h8 := Z9.out; have h9 := Z10.out; have h10 := Z11.out; have h11 := Z12.out; have h12 := U_P0.out; have h13 := U_S.out; have h14 := U_W0.out; have h15 := U_W1.out; have h16 := U_X.out; have h17 := U_Q0.out; have h18 := U_G0.out; have h19 := U_G1.out; omega)
  have W0_12 : Hid (Blk w12 w3.heap.size #[.slice Wa Wr.length Wc, .bool false] 26) := ho.blk W0_11.out (fun hs => by have hx := GR.out _ hs; have h0 := Z1.out; have h1 := Z2.out; have h2 := Z3.out; have h3 := Z4.out; have h4 := Z5.out; have h5 := Z6.out; have h6 := Z7.out; have h7 := Z8.out; have h8 := Z9.out; have h9 := Z10.out; have h10 := Z11.out; have h11 := Z12.out; have h12 := U_P0.out; have h13 := U_S.out; have h14 := U_W0.out; have h15 := U_W1.out; have h16 := U_X.out; have h17 := U_Q0.out; have h18 := U_G0.out; have h19 := U_G1.out; omega)
  have W1_12 : Hid (Blk w12 (w3.heap.size + 1) #[.slice Wx HX.l.length Wy, .int .i64 HX.s, .int .i64 HX.e, .string HX.n] 29) := ho.blk W1_11.out (fun hs => by have hx := GR.out _ hs; have h0 := Z1.out; have h1 := Z2.out; have h2 := Z3.out; have h3 := Z4.out; have h4 := Z5.out; have h5 := Z6.out; have h6 := Z7.out; have h7 := Z8.out; have h8 := Z9.out; have h9 := Z10.out; have h10 := Z11.out; have h11 := Z12.out; have h12 := U_P0.out; have h13 := U_S.out; have h14 := U_W0.out; have h15 := U_W1.out; have h16 := U_X.out; have h17 := U_Q0.out; have h18 := U_G0.out; have h19 := U_G1.out; omega)
  have GY_12 : Hid (YQ w4.heap.size w12 Gx HX) := yq_only GY_11.out ho (fun k hk hs => GD.out k hs hk)
  have G0_12 : Hid (Blk w12 w5.heap.size #[.slice Ga Gr.length Gc, .bool false] 26) := ho.blk G0_11.out (fun hs => by have hx := GR.out _ hs; have h0 := Z1.out; have h1 := Z2.out; have h2 := Z3.out; have h3 := Z4.out; have h4 := Z5.out; have h5 := Z6.out; have h6 := Z7.out; have h7 := Z8.out; have h8 := Z9.out; have h9 := Z10.out; have h10 := Z11.out; have h11 := Z12.out; have h12 := U_P0.out; have h13 := U_S.out; have h14 := U_W0.out; have h15 := U_W1.out; have h16 := U_X.out; have h17 := U_Q0.out; have h18 := U_G0.out; have h19 := U_G1.out; omega)
  have G1_12 : Hid (Blk w12 (w5.heap.size + 1) #[.slice Gx HX.l.length Gy, .int .i64 HX.s, .int .i64 HX.e, .string HX.n] 29) := ho.blk G1_11.out (fun hs => by have hx := GR.out _ hs; have h0 := Z1.out; have h1 := Z2.out; have h2 := Z3.out; have h3 := Z4.out; have h4 := Z5.out; have h5 := Z6.out; have h6 := Z7.out; have h7 := Z8.out; have h8 := Z9.out; have h9 := Z10.out; have h10 := Z11.out; have h11 := Z12.out; have h12 := U_P0.out; have h13 := U_S.out; have h14 := U_W0.out; have h15 := U_W1.out; have h16 := U_X.out; have h17 := U_Q0.out; have h18 := U_G0.out; have h19 := U_G1.out; omega)
  have H_12 : Hid (MQ w12 Ga Gr 1) := hm
  clear hm
  clear ho cP00 cP01 cW00 cW01 cW10 cW11 cW12 cW13 cG00 cG01 cG10 cG11 cG12 cG13
  generalize hz1 : 1 + sumA Gr = z1
  have HZ1 : Hid (1 + sumA Gr = z1) := hz1
  clear hz1
  have hzb : 1 ≤ z1 ∧ z1 ≤ 9000000 := by have := HZ1.out; have := GS.out.1; exact ⟨by omega, by omega⟩
  have HZB : Hid (1 ≤ z1 ∧ z1 ≤ 9000000) := hzb
  clear hzb
  have cP00 : w12.cell? ⟨w.heap.size, 0, none⟩ = some (.slice a0 l0.length cap0) := (P0_12.out).cell 0
  have cP01 : w12.cell? ⟨w.heap.size, 1, none⟩ = some (.bool b0) := (P0_12.out).cell 1
  have cW00 : w12.cell? ⟨w3.heap.size, 0, none⟩ = some (.slice Wa Wr.length Wc) := (W0_12.out).cell 0
  have cW01 : w12.cell? ⟨w3.heap.size, 1, none⟩ = some (.bool false) := (W0_12.out).cell 1
  have cW10 : w12.cell? ⟨(w3.heap.size + 1), 0, none⟩ = some (.slice Wx HX.l.length Wy) := (W1_12.out).cell 0
  have cW11 : w12.cell? ⟨(w3.heap.size + 1), 1, none⟩ = some (.int .i64 HX.s) := (W1_12.out).cell 1
  have cW12 : w12.cell? ⟨(w3.heap.size + 1), 2, none⟩ = some (.int .i64 HX.e) := (W1_12.out).cell 2
  have cW13 : w12.cell? ⟨(w3.heap.size + 1), 3, none⟩ = some (.string HX.n) := (W1_12.out).cell 3
  have cG00 : w12.cell? ⟨w5.heap.size, 0, none⟩ = some (.slice Ga Gr.length Gc) := (G0_12.out).cell 0
  have cG01 : w12.cell? ⟨w5.heap.size, 1, none⟩ = some (.bool false) := (G0_12.out).cell 1
  have cG10 : w12.cell? ⟨(w5.heap.size + 1), 0, none⟩ = some (.slice Gx HX.l.length Gy) := (G1_12.out).cell 0
  have cG11 : w12.cell? ⟨(w5.heap.size + 1), 1, none⟩ = some (.int .i64 HX.s) := (G1_12.out).cell 1
  have cG12 : w12.cell? ⟨(w5.heap.size + 1), 2, none⟩ = some (.int .i64 HX.e) := (G1_12.out).cell 2
  have cG13 : w12.cell? ⟨(w5.heap.size + 1), 3, none⟩ = some (.string HX.n) := (G1_12.out).cell 3
  go_wp2_with fail
  refine (markY_any Gx z1 _ Gy HX w12 GY_12.out PL.out.2.2.2 HZB.out.1 (by have := HZB.out.2; omega)).mono ?_
  rintro e w13 ⟨rfl, hm, ho⟩
  have B13 : Hid (Below w.heap.size w w13) := B12.out.trans (ho.low (fun k hk => by have hx := GYR.out k hk; have hw := B4.out.size; have h0 := Z1.out; have h1 := Z2.out; have h2 := Z3.out; have h3 := Z4.out; have h4 := Z5.out; have h5 := Z6.out; have h6 := Z7.out; have h7 := Z8.out; have h8 := Z9.out; have h9 := Z10.out; have h10 := Z11.out; have h11 := Z12.out; have h12 := U_P0.out; have h13 := U_S.out; have h14 := U_W0.out; have h15 := U_W1.out; have h16 := U_X.out; have h17 := U_Q0.out; have h18 := U_G0.out; have h19 := U_G1.out; omega) B12.out.size)
  have Z13 : Hid (w12.heap.size ≤ w13.heap.size) := ho.size
  have P0_13 : Hid (Blk w13 w.heap.size #[.slice a0 l0.length cap0, .bool b0] 52) := ho.blk P0_12.out (fun hs => by have hx := GYR.out _ hs; have h0 := Z1.out; have h1 := Z2.out; have h2 := Z3.out; have h3 := Z4.out; have h4 := Z5.out; have h5 := Z6.out; have h6 := Z7.out; have h7 := Z8.out; have h8 := Z9.out; have h9 := Z10.out; have h10 := Z11.out; have h11 := Z12.out; have h12 := Z13.out; have h13 := U_P0.out; have h14 := U_S.out; have h15 := U_W0.out; have h16 := U_W1.out; have h17 := U_X.out; have h18 := U_Q0.out; have h19 := U_G0.out; have h20 := U_G1.out; omega)
  have W_13 : Hid (AQ w2.heap.size w13 Wa Wr) := aq_only W_12.out ho (fun k hk hs => by have hx := GYR.out k hs; have hy := WR.out k hk; have h0 := Z1.out; have h1 := Z2.out; have h2 := Z3.out; have h3 := Z4.out; have h4 := Z5.out; have h5 := Z6.out; have h6 := Z7.out; have h7 := Z8.out; have h8 := Z9.out; have h9 := Z10.out; have h10 := Z11.out; have h11 := Z12.out; have h12 := Z13.out; have h13 := U_P0.out; have h14 := U_S.out; have h15 := U_W0.out; have h16 := U_W1.out; have h17 := U_X.out; have h18 := U_Q0.out; have h19 := U_G0.out; have h20 := U_G1.out; omega)
  have WY_13 : Hid (YQ w2.heap.size w13 Wx HX) := yq_only WY_12.out ho (fun k hk hs => by have hx := GYR.out k hs; have hy := WYR.out k hk; have h0 := Z1.out; have h1 := Z2.out; have h2 := Z3.out; have h3 := Z4.out; have h4 := Z5.out; have h5 := Z6.out; have h6 := Z7.out; have h7 := Z8.out; have h8 := Z9.out; have h9 := Z10.out; have h10 := Z11.out; have h11 := Z12.out; have h12 := Z13.out; have h13 := U_P0.out; have h14 := U_S.out; have h15 := U_W0.out; have h16 := U_W1.out; have h17 := U_X.out; have h18 := U_Q0.out; have h19 := U_G0.out; have h20 := U_G1.out; omega)
  have W0_13 : Hid (Blk w13 w3.heap.size #[.slice Wa Wr.length Wc, .bool false] 26) := ho.blk W0_12.out (fun hs => by have hx := GYR.out _ hs; have h0 := Z1.out; have h1 := Z2.out; have h2 := Z3.out; have h3 := Z4.out; have h4 := Z5.out; have h5 := Z6.out; have h6 := Z7.out; have h7 := Z8.out; have h8 := Z9.out; have h9 := Z10.out; have h10 := Z11.out; have h11 := Z12.out; have h12 := Z13.out; have h13 := U_P0.out; have h14 := U_S.out; have h15 := U_W0.out; have h16 := U_W1.out; have h17 := U_X.out; have h18 := U_Q0.out; have h19 := U_G0.out; have h20 := U_G1.out; omega)
  have W1_13 : Hid (Blk w13 (w3.heap.size + 1) #[.slice Wx HX.l.length Wy, .int .i64 HX.s, .int .i64 HX.e, .string HX.n] 29) := ho.blk W1_12.out (fun hs => by have hx := GYR.out _ hs; have h0 := Z1.out; have h1 := Z2.out; have h2 := Z3.out; have h3 := Z4.out; have h4 := Z5.out; have h5 := Z6.out; have h6 := Z7.out; have h7 := Z8.out; have h8 := Z9.out; have h9 := Z10.out; have h10 := Z11.out; have h11 := Z12.out; have h12 := Z13.out; have h13 := U_P0.out; have h14 := U_S.out; have h15 := U_W0.out; have h16 := U_W1.out; have h17 := U_X.out; have h18 := U_Q0.out; have h19 := U_G0.out; have h20 := U_G1.out; omega)
  have G0_13 : Hid (Blk w13 w5.heap.size #[.slice Ga Gr.length Gc, .bool false] 26) := ho.blk G0_12.out (fun hs => by have hx := GYR.out _ hs; have h0 := Z1.out; have h1 := Z2.out; have h2 := Z3.out; have h3 := Z4.out; have h4 := Z5.out; have h5 := Z6.out; have h6 := Z7.out; have h7 := Z8.out; have h8 := Z9.out; have h9 := Z10.out; have h10 := Z11.out; have h11 := Z12.out; have h12 := Z13.out; have h13 := U_P0.out; have h14 := U_S.out; have h15 := U_W0.out; have h16 := U_W1.out; have h17 := U_X.out; have h18 := U_Q0.out; have h19 := U_G0.out; have h20 := U_G1.out; omega)
  have G1_13 : Hid (Blk w13 (w5.heap.size + 1) #[.slice Gx HX.l.length Gy, .int .i64 HX.s, .int .i64 HX.e, .string HX.n] 29) := ho.blk G1_12.out (fun hs => by have hx := GYR.out _ hs; have h0 := Z1.out; have h1 := Z2.out; have h2 := Z3.out; have h3 := Z4.out; have h4 := Z5.out; have h5 := Z6.out; have h6 := Z7.out; have h7 := Z8.out; have h8 := Z9.out; have h9 := Z10.out; have h10 := Z11.out; have h11 := Z12.out; have h12 := Z13.out; have h13 := U_P0.out; have h14 := U_S.out; have h15 := U_W0.out; have h16 := U_W1.out; have h17 := U_X.out; have h18 := U_Q0.out; have h19 := U_G0.out; have h20 := U_G1.out; omega)
  have H_13 : Hid (MQ w13 Ga Gr 1) := H_12.out.only ho (fun k hk hs => GD.out k hk hs)
  have HY_13 : Hid (LQ w13 Gx HX.l.length z1) := hm
  clear hm
  clear ho cP00 cP01 cW00 cW01 cW10 cW11 cW12 cW13 cG00 cG01 cG10 cG11 cG12 cG13
  generalize hz2 : z1 + 2 * HX.l.length = z2
  have HZ2 : Hid (z1 + 2 * HX.l.length = z2) := hz2
  clear hz2
  have hH1 : Hid (Calls Try.prog 39 #[.agg #[.slice Ga Gr.length Gc, .bool false], .int .i64 1] w13 fun e w' => e = .returned (.int .i64 (z1 : Int)) ∧ Below w13.heap.size w13 w') := (heldQ_any false Ga 1 Gc Gr w13 H_13.out GL.out GS.out.2 (by omega) GS.out.1).mono (fun e w' h => ⟨h.1.trans (Mark.retI (by have := HZ1.out; omega)), h.2⟩)
  have hq1 : ¬ (z1 : Int) < 0 := by omega
  have hq2 : ¬ (z2 : Int) < 0 := by omega
  have cP00 : w13.cell? ⟨w.heap.size, 0, none⟩ = some (.slice a0 l0.length cap0) := (P0_13.out).cell 0
  have cP01 : w13.cell? ⟨w.heap.size, 1, none⟩ = some (.bool b0) := (P0_13.out).cell 1
  have cW00 : w13.cell? ⟨w3.heap.size, 0, none⟩ = some (.slice Wa Wr.length Wc) := (W0_13.out).cell 0
  have cW01 : w13.cell? ⟨w3.heap.size, 1, none⟩ = some (.bool false) := (W0_13.out).cell 1
  have cW10 : w13.cell? ⟨(w3.heap.size + 1), 0, none⟩ = some (.slice Wx HX.l.length Wy) := (W1_13.out).cell 0
  have cW11 : w13.cell? ⟨(w3.heap.size + 1), 1, none⟩ = some (.int .i64 HX.s) := (W1_13.out).cell 1
  have cW12 : w13.cell? ⟨(w3.heap.size + 1), 2, none⟩ = some (.int .i64 HX.e) := (W1_13.out).cell 2
  have cW13 : w13.cell? ⟨(w3.heap.size + 1), 3, none⟩ = some (.string HX.n) := (W1_13.out).cell 3
  have cG00 : w13.cell? ⟨w5.heap.size, 0, none⟩ = some (.slice Ga Gr.length Gc) := (G0_13.out).cell 0
  have cG01 : w13.cell? ⟨w5.heap.size, 1, none⟩ = some (.bool false) := (G0_13.out).cell 1
  have cG10 : w13.cell? ⟨(w5.heap.size + 1), 0, none⟩ = some (.slice Gx HX.l.length Gy) := (G1_13.out).cell 0
  have cG11 : w13.cell? ⟨(w5.heap.size + 1), 1, none⟩ = some (.int .i64 HX.s) := (G1_13.out).cell 1
  have cG12 : w13.cell? ⟨(w5.heap.size + 1), 2, none⟩ = some (.int .i64 HX.e) := (G1_13.out).cell 2
  have cG13 : w13.cell? ⟨(w5.heap.size + 1), 3, none⟩ = some (.string HX.n) := (G1_13.out).cell 3
  go_wp2_with fail
  refine (hH1.out).mono ?_
  rintro e w14 ⟨rfl, hb⟩
  have B14 : Hid (Below w.heap.size w w14) := grow_on B13.out hb
  have Z14 : Hid (w13.heap.size ≤ w14.heap.size) := hb.size
  have P0_14 : Hid (Blk w14 w.heap.size #[.slice a0 l0.length cap0, .bool b0] 52) := P0_13.out.grow hb
  have W_14 : Hid (AQ w2.heap.size w14 Wa Wr) := W_13.out.grow hb
  have WY_14 : Hid (YQ w2.heap.size w14 Wx HX) := WY_13.out.grow hb
  have W0_14 : Hid (Blk w14 w3.heap.size #[.slice Wa Wr.length Wc, .bool false] 26) := W0_13.out.grow hb
  have W1_14 : Hid (Blk w14 (w3.heap.size + 1) #[.slice Wx HX.l.length Wy, .int .i64 HX.s, .int .i64 HX.e, .string HX.n] 29) := W1_13.out.grow hb
  have G0_14 : Hid (Blk w14 w5.heap.size #[.slice Ga Gr.length Gc, .bool false] 26) := G0_13.out.grow hb
  have G1_14 : Hid (Blk w14 (w5.heap.size + 1) #[.slice Gx HX.l.length Gy, .int .i64 HX.s, .int .i64 HX.e, .string HX.n] 29) := G1_13.out.grow hb
  have H_14 : Hid (MQ w14 Ga Gr 1) := H_13.out.grow hb
  have HY_14 : Hid (LQ w14 Gx HX.l.length z1) := HY_13.out.grow hb
  clear hb cP00 cP01 cW00 cW01 cW10 cW11 cW12 cW13 cG00 cG01 cG10 cG11 cG12 cG13 hH1
  have hH2 : Hid (Calls Try.prog 40 #[.agg #[.slice Gx HX.l.length Gy, .int .i64 HX.s, .int .i64 HX.e, .string HX.n], .int .i64 (z1 : Int)] w14 fun e w' => e = .returned (.int .i64 (z2 : Int)) ∧ Below w14.heap.size w14 w') := (heldY_any Gx z1 Gy HX w14 HY_14.out PL.out.2.2.2 HZB.out.1 (by have := HZB.out.2; omega)).mono (fun e w' h => ⟨h.1.trans (Mark.retI (by have := HZ2.out; omega)), h.2⟩)
  have cP00 : w14.cell? ⟨w.heap.size, 0, none⟩ = some (.slice a0 l0.length cap0) := (P0_14.out).cell 0
  have cP01 : w14.cell? ⟨w.heap.size, 1, none⟩ = some (.bool b0) := (P0_14.out).cell 1
  have cW00 : w14.cell? ⟨w3.heap.size, 0, none⟩ = some (.slice Wa Wr.length Wc) := (W0_14.out).cell 0
  have cW01 : w14.cell? ⟨w3.heap.size, 1, none⟩ = some (.bool false) := (W0_14.out).cell 1
  have cW10 : w14.cell? ⟨(w3.heap.size + 1), 0, none⟩ = some (.slice Wx HX.l.length Wy) := (W1_14.out).cell 0
  have cW11 : w14.cell? ⟨(w3.heap.size + 1), 1, none⟩ = some (.int .i64 HX.s) := (W1_14.out).cell 1
  have cW12 : w14.cell? ⟨(w3.heap.size + 1), 2, none⟩ = some (.int .i64 HX.e) := (W1_14.out).cell 2
  have cW13 : w14.cell? ⟨(w3.heap.size + 1), 3, none⟩ = some (.string HX.n) := (W1_14.out).cell 3
  have cG00 : w14.cell? ⟨w5.heap.size, 0, none⟩ = some (.slice Ga Gr.length Gc) := (G0_14.out).cell 0
  have cG01 : w14.cell? ⟨w5.heap.size, 1, none⟩ = some (.bool false) := (G0_14.out).cell 1
  have cG10 : w14.cell? ⟨(w5.heap.size + 1), 0, none⟩ = some (.slice Gx HX.l.length Gy) := (G1_14.out).cell 0
  have cG11 : w14.cell? ⟨(w5.heap.size + 1), 1, none⟩ = some (.int .i64 HX.s) := (G1_14.out).cell 1
  have cG12 : w14.cell? ⟨(w5.heap.size + 1), 2, none⟩ = some (.int .i64 HX.e) := (G1_14.out).cell 2
  have cG13 : w14.cell? ⟨(w5.heap.size + 1), 3, none⟩ = some (.string HX.n) := (G1_14.out).cell 3
  go_wp2_with fail
  refine (hH2.out).mono ?_
  rintro e w15 ⟨rfl, hb⟩
  have B15 : Hid (Below w.heap.size w w15) := grow_on B14.out hb
  have Z15 : Hid (w14.heap.size ≤ w15.heap.size) := hb.size
  have P0_15 : Hid (Blk w15 w.heap.size #[.slice a0 l0.length cap0, .bool b0] 52) := P0_14.out.grow hb
  have W_15 : Hid (AQ w2.heap.size w15 Wa Wr) := W_14.out.grow hb
  have WY_15 : Hid (YQ w2.heap.size w15 Wx HX) := WY_14.out.grow hb
  have W0_15 : Hid (Blk w15 w3.heap.size #[.slice Wa Wr.length Wc, .bool false] 26) := W0_14.out.grow hb
  have W1_15 : Hid (Blk w15 (w3.heap.size + 1) #[.slice Wx HX.l.length Wy, .int .i64 HX.s, .int .i64 HX.e, .string HX.n] 29) := W1_14.out.grow hb
  have G0_15 : Hid (Blk w15 w5.heap.size #[.slice Ga Gr.length Gc, .bool false] 26) := G0_14.out.grow hb
  have G1_15 : Hid (Blk w15 (w5.heap.size + 1) #[.slice Gx HX.l.length Gy, .int .i64 HX.s, .int .i64 HX.e, .string HX.n] 29) := G1_14.out.grow hb
  have H_15 : Hid (MQ w15 Ga Gr 1) := H_14.out.grow hb
  have HY_15 : Hid (LQ w15 Gx HX.l.length z1) := HY_14.out.grow hb
  clear hb cP00 cP01 cW00 cW01 cW10 cW11 cW12 cW13 cG00 cG01 cG10 cG11 cG12 cG13 hH2 hq1
  clear hq2
  have cP00 : w15.cell? ⟨w.heap.size, 0, none⟩ = some (.slice a0 l0.length cap0) := (P0_15.out).cell 0
  have cP01 : w15.cell? ⟨w.heap.size, 1, none⟩ = some (.bool b0) := (P0_15.out).cell 1
  have cW00 : w15.cell? ⟨w3.heap.size, 0, none⟩ = some (.slice Wa Wr.length Wc) := (W0_15.out).cell 0
  have cW01 : w15.cell? ⟨w3.heap.size, 1, none⟩ = some (.bool false) := (W0_15.out).cell 1
  have cW10 : w15.cell? ⟨(w3.heap.size + 1), 0, none⟩ = some (.slice Wx HX.l.length Wy) := (W1_15.out).cell 0
  have cW11 : w15.cell? ⟨(w3.heap.size + 1), 1, none⟩ = some (.int .i64 HX.s) := (W1_15.out).cell 1
  have cW12 : w15.cell? ⟨(w3.heap.size + 1), 2, none⟩ = some (.int .i64 HX.e) := (W1_15.out).cell 2
  have cW13 : w15.cell? ⟨(w3.heap.size + 1), 3, none⟩ = some (.string HX.n) := (W1_15.out).cell 3
  have cG00 : w15.cell? ⟨w5.heap.size, 0, none⟩ = some (.slice Ga Gr.length Gc) := (G0_15.out).cell 0
  have cG01 : w15.cell? ⟨w5.heap.size, 1, none⟩ = some (.bool false) := (G0_15.out).cell 1
  have cG10 : w15.cell? ⟨(w5.heap.size + 1), 0, none⟩ = some (.slice Gx HX.l.length Gy) := (G1_15.out).cell 0
  have cG11 : w15.cell? ⟨(w5.heap.size + 1), 1, none⟩ = some (.int .i64 HX.s) := (G1_15.out).cell 1
  have cG12 : w15.cell? ⟨(w5.heap.size + 1), 2, none⟩ = some (.int .i64 HX.e) := (G1_15.out).cell 2
  have cG13 : w15.cell? ⟨(w5.heap.size + 1), 3, none⟩ = some (.string HX.n) := (G1_15.out).cell 3
  go_wp2_with fail
  refine (Sub.to_any b0 a0 cap0 l0 _ (R0.out.below B15.out) K0.out.1 K0.out.2.1).mono ?_
  rintro e w16 ⟨⟨CM, Cr, rfl, hA, hP⟩, hb⟩
  have C_16 : Hid (AB w15.heap.size w16 CM l0.length Cr) := hA.down (by first | omega | (simp; omega))
  have CP : Hid (pals Cr = l0) := hP
  have U_C : Hid (w15.heap.size ≤ CM ∧ CM < w16.heap.size) := ⟨C_16.out.at', C_16.out.lt⟩
  clear hA hP
  have B16 : Hid (Below w.heap.size w w16) := grow_on B15.out hb
  have Z16 : Hid (w15.heap.size ≤ w16.heap.size) := hb.size
  have P0_16 : Hid (Blk w16 w.heap.size #[.slice a0 l0.length cap0, .bool b0] 52) := P0_15.out.grow hb
  have W_16 : Hid (AQ w2.heap.size w16 Wa Wr) := W_15.out.grow hb
  have WY_16 : Hid (YQ w2.heap.size w16 Wx HX) := WY_15.out.grow hb
  have W0_16 : Hid (Blk w16 w3.heap.size #[.slice Wa Wr.length Wc, .bool false] 26) := W0_15.out.grow hb
  have W1_16 : Hid (Blk w16 (w3.heap.size + 1) #[.slice Wx HX.l.length Wy, .int .i64 HX.s, .int .i64 HX.e, .string HX.n] 29) := W1_15.out.grow hb
  have G0_16 : Hid (Blk w16 w5.heap.size #[.slice Ga Gr.length Gc, .bool false] 26) := G0_15.out.grow hb
  have G1_16 : Hid (Blk w16 (w5.heap.size + 1) #[.slice Gx HX.l.length Gy, .int .i64 HX.s, .int .i64 HX.e, .string HX.n] 29) := G1_15.out.grow hb
  have H_16 : Hid (MQ w16 Ga Gr 1) := H_15.out.grow hb
  have HY_16 : Hid (LQ w16 Gx HX.l.length z1) := HY_15.out.grow hb
  clear hb cP00 cP01 cW00 cW01 cW10 cW11 cW12 cW13 cG00 cG01 cG10 cG11 cG12 cG13
  have cP00 : w16.cell? ⟨w.heap.size, 0, none⟩ = some (.slice a0 l0.length cap0) := (P0_16.out).cell 0
  have cP01 : w16.cell? ⟨w.heap.size, 1, none⟩ = some (.bool b0) := (P0_16.out).cell 1
  have cW00 : w16.cell? ⟨w3.heap.size, 0, none⟩ = some (.slice Wa Wr.length Wc) := (W0_16.out).cell 0
  have cW01 : w16.cell? ⟨w3.heap.size, 1, none⟩ = some (.bool false) := (W0_16.out).cell 1
  have cW10 : w16.cell? ⟨(w3.heap.size + 1), 0, none⟩ = some (.slice Wx HX.l.length Wy) := (W1_16.out).cell 0
  have cW11 : w16.cell? ⟨(w3.heap.size + 1), 1, none⟩ = some (.int .i64 HX.s) := (W1_16.out).cell 1
  have cW12 : w16.cell? ⟨(w3.heap.size + 1), 2, none⟩ = some (.int .i64 HX.e) := (W1_16.out).cell 2
  have cW13 : w16.cell? ⟨(w3.heap.size + 1), 3, none⟩ = some (.string HX.n) := (W1_16.out).cell 3
  have cG00 : w16.cell? ⟨w5.heap.size, 0, none⟩ = some (.slice Ga Gr.length Gc) := (G0_16.out).cell 0
  have cG01 : w16.cell? ⟨w5.heap.size, 1, none⟩ = some (.bool false) := (G0_16.out).cell 1
  have cG10 : w16.cell? ⟨(w5.heap.size + 1), 0, none⟩ = some (.slice Gx HX.l.length Gy) := (G1_16.out).cell 0
  have cG11 : w16.cell? ⟨(w5.heap.size + 1), 1, none⟩ = some (.int .i64 HX.s) := (G1_16.out).cell 1
  have cG12 : w16.cell? ⟨(w5.heap.size + 1), 2, none⟩ = some (.int .i64 HX.e) := (G1_16.out).cell 2
  have cG13 : w16.cell? ⟨(w5.heap.size + 1), 3, none⟩ = some (.string HX.n) := (G1_16.out).cell 3
  go_wp2_with fail
  refine (implH _ _ l0 b0 HL HX HN HH.out _ (rdP C_16.out CP.out).rd K0.out.1 N0.out).mono ?_
  rintro e w17 ⟨⟨Va, Vc, Vx, Vy, Vr, rfl, hA, hP, hY, hD⟩, hb⟩
  have V_17 : Hid (AQ w16.heap.size w17 Va Vr) := hA.down (by first | exact Nat.le_refl _ | simp)
  have VY_17 : Hid (YQ w16.heap.size w17 Vx HX) := hY.down (by first | exact Nat.le_refl _ | simp)
  have VP : Hid (pals Vr = HL) := hP
  have VR : Hid (∀ k, blksA Va Vr k → w16.heap.size ≤ k ∧ k < w17.heap.size) := fun k hk => by have := hA.rng k hk; (try simp at this); omega
  have VYR : Hid (∀ k, blkY Vx k → w16.heap.size ≤ k ∧ k < w17.heap.size) := fun k hk => by have := hY.rng k hk; (try simp at this); omega
  have VL : Hid (∀ x ∈ Vr, x.2.2.l.length ≤ 1048576) := hA.len
  have VD : Hid (∀ k, blksA Va Vr k → ¬ blkY Vx k) := hD
  clear hD
  clear hA hP hY
  have B17 : Hid (Below w.heap.size w w17) := grow_on B16.out hb
  have Z17 : Hid (w16.heap.size ≤ w17.heap.size) := hb.size
  have P0_17 : Hid (Blk w17 w.heap.size #[.slice a0 l0.length cap0, .bool b0] 52) := P0_16.out.grow hb
  have W_17 : Hid (AQ w2.heap.size w17 Wa Wr) := W_16.out.grow hb
  have WY_17 : Hid (YQ w2.heap.size w17 Wx HX) := WY_16.out.grow hb
  have W0_17 : Hid (Blk w17 w3.heap.size #[.slice Wa Wr.length Wc, .bool false] 26) := W0_16.out.grow hb
  have W1_17 : Hid (Blk w17 (w3.heap.size + 1) #[.slice Wx HX.l.length Wy, .int .i64 HX.s, .int .i64 HX.e, .string HX.n] 29) := W1_16.out.grow hb
  have G0_17 : Hid (Blk w17 w5.heap.size #[.slice Ga Gr.length Gc, .bool false] 26) := G0_16.out.grow hb
  have G1_17 : Hid (Blk w17 (w5.heap.size + 1) #[.slice Gx HX.l.length Gy, .int .i64 HX.s, .int .i64 HX.e, .string HX.n] 29) := G1_16.out.grow hb
  have H_17 : Hid (MQ w17 Ga Gr 1) := H_16.out.grow hb
  have HY_17 : Hid (LQ w17 Gx HX.l.length z1) := HY_16.out.grow hb
  have C_17 : Hid (AB w15.heap.size w17 CM l0.length Cr) := C_16.out.grow hb
  clear hb cP00 cP01 cW00 cW01 cW10 cW11 cW12 cW13 cG00 cG01 cG10 cG11 cG12 cG13
  have cP00 : ((w17.alloc (.cells #[.slice Va Vr.length Vc, .bool false] 26)).alloc (.cells #[.slice Vx HX.l.length Vy, .int .i64 HX.s, .int .i64 HX.e, .string HX.n] 29)).cell? ⟨w.heap.size, 0, none⟩ = some (.slice a0 l0.length cap0) := (((P0_17.out.alloc _).alloc _)).cell 0
  have cP01 : ((w17.alloc (.cells #[.slice Va Vr.length Vc, .bool false] 26)).alloc (.cells #[.slice Vx HX.l.length Vy, .int .i64 HX.s, .int .i64 HX.e, .string HX.n] 29)).cell? ⟨w.heap.size, 1, none⟩ = some (.bool b0) := (((P0_17.out.alloc _).alloc _)).cell 1
  have cW00 : ((w17.alloc (.cells #[.slice Va Vr.length Vc, .bool false] 26)).alloc (.cells #[.slice Vx HX.l.length Vy, .int .i64 HX.s, .int .i64 HX.e, .string HX.n] 29)).cell? ⟨w3.heap.size, 0, none⟩ = some (.slice Wa Wr.length Wc) := (((W0_17.out.alloc _).alloc _)).cell 0
  have cW01 : ((w17.alloc (.cells #[.slice Va Vr.length Vc, .bool false] 26)).alloc (.cells #[.slice Vx HX.l.length Vy, .int .i64 HX.s, .int .i64 HX.e, .string HX.n] 29)).cell? ⟨w3.heap.size, 1, none⟩ = some (.bool false) := (((W0_17.out.alloc _).alloc _)).cell 1
  have cW10 : ((w17.alloc (.cells #[.slice Va Vr.length Vc, .bool false] 26)).alloc (.cells #[.slice Vx HX.l.length Vy, .int .i64 HX.s, .int .i64 HX.e, .string HX.n] 29)).cell? ⟨(w3.heap.size + 1), 0, none⟩ = some (.slice Wx HX.l.length Wy) := (((W1_17.out.alloc _).alloc _)).cell 0
  have cW11 : ((w17.alloc (.cells #[.slice Va Vr.length Vc, .bool false] 26)).alloc (.cells #[.slice Vx HX.l.length Vy, .int .i64 HX.s, .int .i64 HX.e, .string HX.n] 29)).cell? ⟨(w3.heap.size + 1), 1, none⟩ = some (.int .i64 HX.s) := (((W1_17.out.alloc _).alloc _)).cell 1
  have cW12 : ((w17.alloc (.cells #[.slice Va Vr.length Vc, .bool false] 26)).alloc (.cells #[.slice Vx HX.l.length Vy, .int .i64 HX.s, .int .i64 HX.e, .string HX.n] 29)).cell? ⟨(w3.heap.size + 1), 2, none⟩ = some (.int .i64 HX.e) := (((W1_17.out.alloc _).alloc _)).cell 2
  have cW13 : ((w17.alloc (.cells #[.slice Va Vr.length Vc, .bool false] 26)).alloc (.cells #[.slice Vx HX.l.length Vy, .int .i64 HX.s, .int .i64 HX.e, .string HX.n] 29)).cell? ⟨(w3.heap.size + 1), 3, none⟩ = some (.string HX.n) := (((W1_17.out.alloc _).alloc _)).cell 3
  have cG00 : ((w17.alloc (.cells #[.slice Va Vr.length Vc, .bool false] 26)).alloc (.cells #[.slice Vx HX.l.length Vy, .int .i64 HX.s, .int .i64 HX.e, .string HX.n] 29)).cell? ⟨w5.heap.size, 0, none⟩ = some (.slice Ga Gr.length Gc) := (((G0_17.out.alloc _).alloc _)).cell 0
  have cG01 : ((w17.alloc (.cells #[.slice Va Vr.length Vc, .bool false] 26)).alloc (.cells #[.slice Vx HX.l.length Vy, .int .i64 HX.s, .int .i64 HX.e, .string HX.n] 29)).cell? ⟨w5.heap.size, 1, none⟩ = some (.bool false) := (((G0_17.out.alloc _).alloc _)).cell 1
  have cG10 : ((w17.alloc (.cells #[.slice Va Vr.length Vc, .bool false] 26)).alloc (.cells #[.slice Vx HX.l.length Vy, .int .i64 HX.s, .int .i64 HX.e, .string HX.n] 29)).cell? ⟨(w5.heap.size + 1), 0, none⟩ = some (.slice Gx HX.l.length Gy) := (((G1_17.out.alloc _).alloc _)).cell 0
  have cG11 : ((w17.alloc (.cells #[.slice Va Vr.length Vc, .bool false] 26)).alloc (.cells #[.slice Vx HX.l.length Vy, .int .i64 HX.s, .int .i64 HX.e, .string HX.n] 29)).cell? ⟨(w5.heap.size + 1), 1, none⟩ = some (.int .i64 HX.s) := (((G1_17.out.alloc _).alloc _)).cell 1
  have cG12 : ((w17.alloc (.cells #[.slice Va Vr.length Vc, .bool false] 26)).alloc (.cells #[.slice Vx HX.l.length Vy, .int .i64 HX.s, .int .i64 HX.e, .string HX.n] 29)).cell? ⟨(w5.heap.size + 1), 2, none⟩ = some (.int .i64 HX.e) := (((G1_17.out.alloc _).alloc _)).cell 2
  have cG13 : ((w17.alloc (.cells #[.slice Va Vr.length Vc, .bool false] 26)).alloc (.cells #[.slice Vx HX.l.length Vy, .int .i64 HX.s, .int .i64 HX.e, .string HX.n] 29)).cell? ⟨(w5.heap.size + 1), 3, none⟩ = some (.string HX.n) := (((G1_17.out.alloc _).alloc _)).cell 3
  go_wp2_with fail
  refine (eqR_any false _ _ _ _ Vr Wr HL _ (V_17.out.rd.below (Go.Joins.below_alloc2 w17 _ _)) (W_17.out.rd.below (Go.Joins.below_alloc2 w17 _ _)) VP.out WP.out PL.out.1 PL.out.2.1).mono ?_
  rintro e w18 ⟨rfl, hb⟩
  have V0_18 : Hid (Blk w18 w17.heap.size #[.slice Va Vr.length Vc, .bool false] 26) := ((Blk.new _ _ _).alloc _).grow hb
  have U_V0 : Hid (w17.heap.size ≤ w17.heap.size ∧ w17.heap.size < w18.heap.size) := ⟨by omega, V0_18.out.lt⟩
  have V1_18 : Hid (Blk w18 (w17.heap.size + 1) #[.slice Vx HX.l.length Vy, .int .i64 HX.s, .int .i64 HX.e, .string HX.n] 29) := (Blk.new_at (by simp)).grow hb
  have U_V1 : Hid (w17.heap.size ≤ (w17.heap.size + 1) ∧ (w17.heap.size + 1) < w18.heap.size) := ⟨by omega, V1_18.out.lt⟩
  replace hb := grow_on (Go.Joins.below_alloc2 w17 _ _) hb
  have B18 : Hid (Below w.heap.size w w18) := grow_on B17.out hb
  have Z18 : Hid (w17.heap.size ≤ w18.heap.size) := hb.size
  have P0_18 : Hid (Blk w18 w.heap.size #[.slice a0 l0.length cap0, .bool b0] 52) := P0_17.out.grow hb
  have W_18 : Hid (AQ w2.heap.size w18 Wa Wr) := W_17.out.grow hb
  have WY_18 : Hid (YQ w2.heap.size w18 Wx HX) := WY_17.out.grow hb
  have W0_18 : Hid (Blk w18 w3.heap.size #[.slice Wa Wr.length Wc, .bool false] 26) := W0_17.out.grow hb
  have W1_18 : Hid (Blk w18 (w3.heap.size + 1) #[.slice Wx HX.l.length Wy, .int .i64 HX.s, .int .i64 HX.e, .string HX.n] 29) := W1_17.out.grow hb
  have G0_18 : Hid (Blk w18 w5.heap.size #[.slice Ga Gr.length Gc, .bool false] 26) := G0_17.out.grow hb
  have G1_18 : Hid (Blk w18 (w5.heap.size + 1) #[.slice Gx HX.l.length Gy, .int .i64 HX.s, .int .i64 HX.e, .string HX.n] 29) := G1_17.out.grow hb
  have H_18 : Hid (MQ w18 Ga Gr 1) := H_17.out.grow hb
  have HY_18 : Hid (LQ w18 Gx HX.l.length z1) := HY_17.out.grow hb
  have V_18 : Hid (AQ w16.heap.size w18 Va Vr) := V_17.out.grow hb
  have VY_18 : Hid (YQ w16.heap.size w18 Vx HX) := VY_17.out.grow hb
  clear hb cP00 cP01 cW00 cW01 cW10 cW11 cW12 cW13 cG00 cG01 cG10 cG11 cG12 cG13
  have cP00 : w18.cell? ⟨w.heap.size, 0, none⟩ = some (.slice a0 l0.length cap0) := (P0_18.out).cell 0
  have cP01 : w18.cell? ⟨w.heap.size, 1, none⟩ = some (.bool b0) := (P0_18.out).cell 1
  have cW00 : w18.cell? ⟨w3.heap.size, 0, none⟩ = some (.slice Wa Wr.length Wc) := (W0_18.out).cell 0
  have cW01 : w18.cell? ⟨w3.heap.size, 1, none⟩ = some (.bool false) := (W0_18.out).cell 1
  have cW10 : w18.cell? ⟨(w3.heap.size + 1), 0, none⟩ = some (.slice Wx HX.l.length Wy) := (W1_18.out).cell 0
  have cW11 : w18.cell? ⟨(w3.heap.size + 1), 1, none⟩ = some (.int .i64 HX.s) := (W1_18.out).cell 1
  have cW12 : w18.cell? ⟨(w3.heap.size + 1), 2, none⟩ = some (.int .i64 HX.e) := (W1_18.out).cell 2
  have cW13 : w18.cell? ⟨(w3.heap.size + 1), 3, none⟩ = some (.string HX.n) := (W1_18.out).cell 3
  have cG00 : w18.cell? ⟨w5.heap.size, 0, none⟩ = some (.slice Ga Gr.length Gc) := (G0_18.out).cell 0
  have cG01 : w18.cell? ⟨w5.heap.size, 1, none⟩ = some (.bool false) := (G0_18.out).cell 1
  have cG10 : w18.cell? ⟨(w5.heap.size + 1), 0, none⟩ = some (.slice Gx HX.l.length Gy) := (G1_18.out).cell 0
  have cG11 : w18.cell? ⟨(w5.heap.size + 1), 1, none⟩ = some (.int .i64 HX.s) := (G1_18.out).cell 1
  have cG12 : w18.cell? ⟨(w5.heap.size + 1), 2, none⟩ = some (.int .i64 HX.e) := (G1_18.out).cell 2
  have cG13 : w18.cell? ⟨(w5.heap.size + 1), 3, none⟩ = some (.string HX.n) := (G1_18.out).cell 3
  have cV00 : w18.cell? ⟨w17.heap.size, 0, none⟩ = some (.slice Va Vr.length Vc) := (V0_18.out).cell 0
  have cV01 : w18.cell? ⟨w17.heap.size, 1, none⟩ = some (.bool false) := (V0_18.out).cell 1
  have cV10 : w18.cell? ⟨(w17.heap.size + 1), 0, none⟩ = some (.slice Vx HX.l.length Vy) := (V1_18.out).cell 0
  have cV11 : w18.cell? ⟨(w17.heap.size + 1), 1, none⟩ = some (.int .i64 HX.s) := (V1_18.out).cell 1
  have cV12 : w18.cell? ⟨(w17.heap.size + 1), 2, none⟩ = some (.int .i64 HX.e) := (V1_18.out).cell 2
  have cV13 : w18.cell? ⟨(w17.heap.size + 1), 3, none⟩ = some (.string HX.n) := (V1_18.out).cell 3
  go_wp2_with fail
  refine (eqX_any HX _ _ _ _ _ VY_18.out.rd WY_18.out.rd PL.out.2.2.1).mono ?_
  rintro e w19 ⟨rfl, hb⟩
  have B19 : Hid (Below w.heap.size w w19) := grow_on B18.out hb
  have Z19 : Hid (w18.heap.size ≤ w19.heap.size) := hb.size
  have P0_19 : Hid (Blk w19 w.heap.size #[.slice a0 l0.length cap0, .bool b0] 52) := P0_18.out.grow hb
  have W_19 : Hid (AQ w2.heap.size w19 Wa Wr) := W_18.out.grow hb
  have WY_19 : Hid (YQ w2.heap.size w19 Wx HX) := WY_18.out.grow hb
  have W0_19 : Hid (Blk w19 w3.heap.size #[.slice Wa Wr.length Wc, .bool false] 26) := W0_18.out.grow hb
  have W1_19 : Hid (Blk w19 (w3.heap.size + 1) #[.slice Wx HX.l.length Wy, .int .i64 HX.s, .int .i64 HX.e, .string HX.n] 29) := W1_18.out.grow hb
  have G0_19 : Hid (Blk w19 w5.heap.size #[.slice Ga Gr.length Gc, .bool false] 26) := G0_18.out.grow hb
  have G1_19 : Hid (Blk w19 (w5.heap.size + 1) #[.slice Gx HX.l.length Gy, .int .i64 HX.s, .int .i64 HX.e, .string HX.n] 29) := G1_18.out.grow hb
  have H_19 : Hid (MQ w19 Ga Gr 1) := H_18.out.grow hb
  have HY_19 : Hid (LQ w19 Gx HX.l.length z1) := HY_18.out.grow hb
  have V_19 : Hid (AQ w16.heap.size w19 Va Vr) := V_18.out.grow hb
  have VY_19 : Hid (YQ w16.heap.size w19 Vx HX) := VY_18.out.grow hb
  have V0_19 : Hid (Blk w19 w17.heap.size #[.slice Va Vr.length Vc, .bool false] 26) := V0_18.out.grow hb
  have V1_19 : Hid (Blk w19 (w17.heap.size + 1) #[.slice Vx HX.l.length Vy, .int .i64 HX.s, .int .i64 HX.e, .string HX.n] 29) := V1_18.out.grow hb
  clear hb cP00 cP01 cW00 cW01 cW10 cW11 cW12 cW13 cG00 cG01 cG10 cG11 cG12 cG13 cV00 cV01 cV10 cV11 cV12 cV13
  have hH1 : Hid (Calls Try.prog 39 #[.agg #[.slice Ga Gr.length Gc, .bool false], .int .i64 1] w19 fun e w' => e = .returned (.int .i64 (z1 : Int)) ∧ Below w19.heap.size w19 w') := (heldQ_any false Ga 1 Gc Gr w19 H_19.out GL.out GS.out.2 (by omega) GS.out.1).mono (fun e w' h => ⟨h.1.trans (Mark.retI (by have := HZ1.out; omega)), h.2⟩)
  have hq1 : ¬ (z1 : Int) < 0 := by omega
  have hq2 : ¬ (z2 : Int) < 0 := by omega
  have cP00 : w19.cell? ⟨w.heap.size, 0, none⟩ = some (.slice a0 l0.length cap0) := (P0_19.out).cell 0
  have cP01 : w19.cell? ⟨w.heap.size, 1, none⟩ = some (.bool b0) := (P0_19.out).cell 1
  have cW00 : w19.cell? ⟨w3.heap.size, 0, none⟩ = some (.slice Wa Wr.length Wc) := (W0_19.out).cell 0
  have cW01 : w19.cell? ⟨w3.heap.size, 1, none⟩ = some (.bool false) := (W0_19.out).cell 1
  have cW10 : w19.cell? ⟨(w3.heap.size + 1), 0, none⟩ = some (.slice Wx HX.l.length Wy) := (W1_19.out).cell 0
  have cW11 : w19.cell? ⟨(w3.heap.size + 1), 1, none⟩ = some (.int .i64 HX.s) := (W1_19.out).cell 1
  have cW12 : w19.cell? ⟨(w3.heap.size + 1), 2, none⟩ = some (.int .i64 HX.e) := (W1_19.out).cell 2
  have cW13 : w19.cell? ⟨(w3.heap.size + 1), 3, none⟩ = some (.string HX.n) := (W1_19.out).cell 3
  have cG00 : w19.cell? ⟨w5.heap.size, 0, none⟩ = some (.slice Ga Gr.length Gc) := (G0_19.out).cell 0
  have cG01 : w19.cell? ⟨w5.heap.size, 1, none⟩ = some (.bool false) := (G0_19.out).cell 1
  have cG10 : w19.cell? ⟨(w5.heap.size + 1), 0, none⟩ = some (.slice Gx HX.l.length Gy) := (G1_19.out).cell 0
  have cG11 : w19.cell? ⟨(w5.heap.size + 1), 1, none⟩ = some (.int .i64 HX.s) := (G1_19.out).cell 1
  have cG12 : w19.cell? ⟨(w5.heap.size + 1), 2, none⟩ = some (.int .i64 HX.e) := (G1_19.out).cell 2
  have cG13 : w19.cell? ⟨(w5.heap.size + 1), 3, none⟩ = some (.string HX.n) := (G1_19.out).cell 3
  have cV00 : w19.cell? ⟨w17.heap.size, 0, none⟩ = some (.slice Va Vr.length Vc) := (V0_19.out).cell 0
  have cV01 : w19.cell? ⟨w17.heap.size, 1, none⟩ = some (.bool false) := (V0_19.out).cell 1
  have cV10 : w19.cell? ⟨(w17.heap.size + 1), 0, none⟩ = some (.slice Vx HX.l.length Vy) := (V1_19.out).cell 0
  have cV11 : w19.cell? ⟨(w17.heap.size + 1), 1, none⟩ = some (.int .i64 HX.s) := (V1_19.out).cell 1
  have cV12 : w19.cell? ⟨(w17.heap.size + 1), 2, none⟩ = some (.int .i64 HX.e) := (V1_19.out).cell 2
  have cV13 : w19.cell? ⟨(w17.heap.size + 1), 3, none⟩ = some (.string HX.n) := (V1_19.out).cell 3
  go_wp2_with fail
  refine (hH1.out).mono ?_
  rintro e w20 ⟨rfl, hb⟩
  have B20 : Hid (Below w.heap.size w w20) := grow_on B19.out hb
  have Z20 : Hid (w19.heap.size ≤ w20.heap.size) := hb.size
  have P0_20 : Hid (Blk w20 w.heap.size #[.slice a0 l0.length cap0, .bool b0] 52) := P0_19.out.grow hb
  have W_20 : Hid (AQ w2.heap.size w20 Wa Wr) := W_19.out.grow hb
  have WY_20 : Hid (YQ w2.heap.size w20 Wx HX) := WY_19.out.grow hb
  have W0_20 : Hid (Blk w20 w3.heap.size #[.slice Wa Wr.length Wc, .bool false] 26) := W0_19.out.grow hb
  have W1_20 : Hid (Blk w20 (w3.heap.size + 1) #[.slice Wx HX.l.length Wy, .int .i64 HX.s, .int .i64 HX.e, .string HX.n] 29) := W1_19.out.grow hb
  have G0_20 : Hid (Blk w20 w5.heap.size #[.slice Ga Gr.length Gc, .bool false] 26) := G0_19.out.grow hb
  have G1_20 : Hid (Blk w20 (w5.heap.size + 1) #[.slice Gx HX.l.length Gy, .int .i64 HX.s, .int .i64 HX.e, .string HX.n] 29) := G1_19.out.grow hb
  have H_20 : Hid (MQ w20 Ga Gr 1) := H_19.out.grow hb
  have HY_20 : Hid (LQ w20 Gx HX.l.length z1) := HY_19.out.grow hb
  have V_20 : Hid (AQ w16.heap.size w20 Va Vr) := V_19.out.grow hb
  have VY_20 : Hid (YQ w16.heap.size w20 Vx HX) := VY_19.out.grow hb
  have V0_20 : Hid (Blk w20 w17.heap.size #[.slice Va Vr.length Vc, .bool false] 26) := V0_19.out.grow hb
  have V1_20 : Hid (Blk w20 (w17.heap.size + 1) #[.slice Vx HX.l.length Vy, .int .i64 HX.s, .int .i64 HX.e, .string HX.n] 29) := V1_19.out.grow hb
  clear hb cP00 cP01 cW00 cW01 cW10 cW11 cW12 cW13 cG00 cG01 cG10 cG11 cG12 cG13 cV00 cV01 cV10 cV11 cV12 cV13 hH1
  have hH2 : Hid (Calls Try.prog 40 #[.agg #[.slice Gx HX.l.length Gy, .int .i64 HX.s, .int .i64 HX.e, .string HX.n], .int .i64 (z1 : Int)] w20 fun e w' => e = .returned (.int .i64 (z2 : Int)) ∧ Below w20.heap.size w20 w') := (heldY_any Gx z1 Gy HX w20 HY_20.out PL.out.2.2.2 HZB.out.1 (by have := HZB.out.2; omega)).mono (fun e w' h => ⟨h.1.trans (Mark.retI (by have := HZ2.out; omega)), h.2⟩)
  have cP00 : w20.cell? ⟨w.heap.size, 0, none⟩ = some (.slice a0 l0.length cap0) := (P0_20.out).cell 0
  have cP01 : w20.cell? ⟨w.heap.size, 1, none⟩ = some (.bool b0) := (P0_20.out).cell 1
  have cW00 : w20.cell? ⟨w3.heap.size, 0, none⟩ = some (.slice Wa Wr.length Wc) := (W0_20.out).cell 0
  have cW01 : w20.cell? ⟨w3.heap.size, 1, none⟩ = some (.bool false) := (W0_20.out).cell 1
  have cW10 : w20.cell? ⟨(w3.heap.size + 1), 0, none⟩ = some (.slice Wx HX.l.length Wy) := (W1_20.out).cell 0
  have cW11 : w20.cell? ⟨(w3.heap.size + 1), 1, none⟩ = some (.int .i64 HX.s) := (W1_20.out).cell 1
  have cW12 : w20.cell? ⟨(w3.heap.size + 1), 2, none⟩ = some (.int .i64 HX.e) := (W1_20.out).cell 2
  have cW13 : w20.cell? ⟨(w3.heap.size + 1), 3, none⟩ = some (.string HX.n) := (W1_20.out).cell 3
  have cG00 : w20.cell? ⟨w5.heap.size, 0, none⟩ = some (.slice Ga Gr.length Gc) := (G0_20.out).cell 0
  have cG01 : w20.cell? ⟨w5.heap.size, 1, none⟩ = some (.bool false) := (G0_20.out).cell 1
  have cG10 : w20.cell? ⟨(w5.heap.size + 1), 0, none⟩ = some (.slice Gx HX.l.length Gy) := (G1_20.out).cell 0
  have cG11 : w20.cell? ⟨(w5.heap.size + 1), 1, none⟩ = some (.int .i64 HX.s) := (G1_20.out).cell 1
  have cG12 : w20.cell? ⟨(w5.heap.size + 1), 2, none⟩ = some (.int .i64 HX.e) := (G1_20.out).cell 2
  have cG13 : w20.cell? ⟨(w5.heap.size + 1), 3, none⟩ = some (.string HX.n) := (G1_20.out).cell 3
  have cV00 : w20.cell? ⟨w17.heap.size, 0, none⟩ = some (.slice Va Vr.length Vc) := (V0_20.out).cell 0
  have cV01 : w20.cell? ⟨w17.heap.size, 1, none⟩ = some (.bool false) := (V0_20.out).cell 1
  have cV10 : w20.cell? ⟨(w17.heap.size + 1), 0, none⟩ = some (.slice Vx HX.l.length Vy) := (V1_20.out).cell 0
  have cV11 : w20.cell? ⟨(w17.heap.size + 1), 1, none⟩ = some (.int .i64 HX.s) := (V1_20.out).cell 1
  have cV12 : w20.cell? ⟨(w17.heap.size + 1), 2, none⟩ = some (.int .i64 HX.e) := (V1_20.out).cell 2
  have cV13 : w20.cell? ⟨(w17.heap.size + 1), 3, none⟩ = some (.string HX.n) := (V1_20.out).cell 3
  go_wp2_with fail
  refine (hH2.out).mono ?_
  rintro e w21 ⟨rfl, hb⟩
  have B21 : Hid (Below w.heap.size w w21) := grow_on B20.out hb
  have Z21 : Hid (w20.heap.size ≤ w21.heap.size) := hb.size
  have P0_21 : Hid (Blk w21 w.heap.size #[.slice a0 l0.length cap0, .bool b0] 52) := P0_20.out.grow hb
  have W_21 : Hid (AQ w2.heap.size w21 Wa Wr) := W_20.out.grow hb
  have WY_21 : Hid (YQ w2.heap.size w21 Wx HX) := WY_20.out.grow hb
  have W0_21 : Hid (Blk w21 w3.heap.size #[.slice Wa Wr.length Wc, .bool false] 26) := W0_20.out.grow hb
  have W1_21 : Hid (Blk w21 (w3.heap.size + 1) #[.slice Wx HX.l.length Wy, .int .i64 HX.s, .int .i64 HX.e, .string HX.n] 29) := W1_20.out.grow hb
  have G0_21 : Hid (Blk w21 w5.heap.size #[.slice Ga Gr.length Gc, .bool false] 26) := G0_20.out.grow hb
  have G1_21 : Hid (Blk w21 (w5.heap.size + 1) #[.slice Gx HX.l.length Gy, .int .i64 HX.s, .int .i64 HX.e, .string HX.n] 29) := G1_20.out.grow hb
  have H_21 : Hid (MQ w21 Ga Gr 1) := H_20.out.grow hb
  have HY_21 : Hid (LQ w21 Gx HX.l.length z1) := HY_20.out.grow hb
  have V_21 : Hid (AQ w16.heap.size w21 Va Vr) := V_20.out.grow hb
  have VY_21 : Hid (YQ w16.heap.size w21 Vx HX) := VY_20.out.grow hb
  have V0_21 : Hid (Blk w21 w17.heap.size #[.slice Va Vr.length Vc, .bool false] 26) := V0_20.out.grow hb
  have V1_21 : Hid (Blk w21 (w17.heap.size + 1) #[.slice Vx HX.l.length Vy, .int .i64 HX.s, .int .i64 HX.e, .string HX.n] 29) := V1_20.out.grow hb
  clear hb cP00 cP01 cW00 cW01 cW10 cW11 cW12 cW13 cG00 cG01 cG10 cG11 cG12 cG13 cV00 cV01 cV10 cV11 cV12 cV13 hH2 hq1
  have cP00 : w21.cell? ⟨w.heap.size, 0, none⟩ = some (.slice a0 l0.length cap0) := (P0_21.out).cell 0
  have cP01 : w21.cell? ⟨w.heap.size, 1, none⟩ = some (.bool b0) := (P0_21.out).cell 1
  have cW00 : w21.cell? ⟨w3.heap.size, 0, none⟩ = some (.slice Wa Wr.length Wc) := (W0_21.out).cell 0
  have cW01 : w21.cell? ⟨w3.heap.size, 1, none⟩ = some (.bool false) := (W0_21.out).cell 1
  have cW10 : w21.cell? ⟨(w3.heap.size + 1), 0, none⟩ = some (.slice Wx HX.l.length Wy) := (W1_21.out).cell 0
  have cW11 : w21.cell? ⟨(w3.heap.size + 1), 1, none⟩ = some (.int .i64 HX.s) := (W1_21.out).cell 1
  have cW12 : w21.cell? ⟨(w3.heap.size + 1), 2, none⟩ = some (.int .i64 HX.e) := (W1_21.out).cell 2
  have cW13 : w21.cell? ⟨(w3.heap.size + 1), 3, none⟩ = some (.string HX.n) := (W1_21.out).cell 3
  have cG00 : w21.cell? ⟨w5.heap.size, 0, none⟩ = some (.slice Ga Gr.length Gc) := (G0_21.out).cell 0
  have cG01 : w21.cell? ⟨w5.heap.size, 1, none⟩ = some (.bool false) := (G0_21.out).cell 1
  have cG10 : w21.cell? ⟨(w5.heap.size + 1), 0, none⟩ = some (.slice Gx HX.l.length Gy) := (G1_21.out).cell 0
  have cG11 : w21.cell? ⟨(w5.heap.size + 1), 1, none⟩ = some (.int .i64 HX.s) := (G1_21.out).cell 1
  have cG12 : w21.cell? ⟨(w5.heap.size + 1), 2, none⟩ = some (.int .i64 HX.e) := (G1_21.out).cell 2
  have cG13 : w21.cell? ⟨(w5.heap.size + 1), 3, none⟩ = some (.string HX.n) := (G1_21.out).cell 3
  have cV00 : w21.cell? ⟨w17.heap.size, 0, none⟩ = some (.slice Va Vr.length Vc) := (V0_21.out).cell 0
  have cV01 : w21.cell? ⟨w17.heap.size, 1, none⟩ = some (.bool false) := (V0_21.out).cell 1
  have cV10 : w21.cell? ⟨(w17.heap.size + 1), 0, none⟩ = some (.slice Vx HX.l.length Vy) := (V1_21.out).cell 0
  have cV11 : w21.cell? ⟨(w17.heap.size + 1), 1, none⟩ = some (.int .i64 HX.s) := (V1_21.out).cell 1
  have cV12 : w21.cell? ⟨(w17.heap.size + 1), 2, none⟩ = some (.int .i64 HX.e) := (V1_21.out).cell 2
  have cV13 : w21.cell? ⟨(w17.heap.size + 1), 3, none⟩ = some (.string HX.n) := (V1_21.out).cell 3
  go_wp2
  go_ret
  exact ⟨rfl, B21.out⟩
theorem own : ownKnob Try.prog.godebug = none := by kernel_rfl
theorem laidOut : laidOutB Try.prog = true := by kernel_rfl
set_option maxRecDepth 100000 in
theorem lifted (os : Os) (started : os.Started) (H : Type) (enc : TypeId × Value → H) :
    ReturnsInHanded {} Try.checked os 8 .any (Rows.fnExactHearSpec.pre6 enc Try.prog Try.f8 Rows.fnExactHearRow.domain false) (Rows.fnExactHearSpec.post enc Try.prog Try.f8 false true false false) := by
  refine returnsInHanded_of_change (C := Try.checked) own started (by kernel_rfl) Try.func8
    (ChangeSpec.witness6 (enc := enc) (C := Try.checked) false ⟨#[], #[.agg #[.slice none 0 0, .bool false]], []⟩ 8 (by kernel_rfl) (by kernel_rfl) (by kernel_rfl) (by kernel_rfl)) ?_
  intro W base args ds gs before hval0 hW hcnd _
  have hval : ∀ (j : Nat) t v, Try.f8.params[j]? = some t → args[j]? = some v → Value.okWide Try.prog W .any base t v := hval0
  have hW' := hW
  obtain ⟨p, q, hA0, hV, rfl, hfz, hnd⟩ := hW
  have hA : DataW.TrodAll enc Try.prog W 0 (fun _ => true) true Try.f8.params.toList args.toList ds p := hA0
  rw [Try.params8] at hA hval
  obtain ⟨v0, vs0, d0, ds0, p0, q0, hargs, rfl, rfl, h0, r0⟩ := trodAll_cons hA
  obtain ⟨rfl, rfl, rfl⟩ := trodAll_nil r0
  obtain rfl : args = #[v0] := by cases args; simp_all
  obtain ⟨rfl, rfl⟩ := trodVars_none hV
  have k0 := h0
  have lt0 : ∀ x ∈ p0, x.block < W.heap.size := by obtain ⟨m, hm⟩ := k0; exact DataW.trod_lt m _ _ _ hm
  obtain ⟨a0, cap0, l0, b0, rfl, w0, m0, z0⟩ := Go.Proofs.Ytdmhccheaemkkaa.Sub.open_sub (hval 0 52 v0 rfl rfl) h0
  clear hA0 hval0
  refine (walk a0 cap0 l0 b0 W w0 m0 z0).mono fun e W' ⟨he, bel⟩ => ?_
  subst he
  exact ⟨_, rfl, _, _, _, [], _, [], hW', trodAll_mk1 (shut_bool Try.underlying4 _), (trodAll_cons_mk (Below.trod laidOut (by kernel_rfl) (of_decide_eq_true (by kernel_rfl)) k0 bel lt0) trodAll_mk0), rfl, bel.frame _, fun h => by cases h⟩

theorem over : Rows.fnExactHearRow.holds Try.pinned (OpenSpec.ofChange Rows.fnExactHearSpec) :=
  OpenClaim.holds_of_wide 8 Try.f8 rfl rfl rfl rfl rfl rfl rfl ⟨rfl, rfl, rfl, rfl, rfl⟩ rfl rfl rfl rfl rfl (by kernel_rfl) Try.func8 (by kernel_rfl)
    (of_decide_eq_true (by kernel_rfl)) (by unfold Func.isWrapper; first | (rw [if_pos (by decide +kernel)]; kernel_rfl) | (rw [if_neg (by decide +kernel)]; exact ⟨rfl, rfl⟩))
    (fun os started H enc _ => lifted os started H enc)

end Go.Proofs.Ytdmhccheaemkkaa.FnExactHear
namespace Go.Proofs.Ytdmhccheaemkkaa
theorem fnExactHear_holds : Rows.FnExactHearSaid := FnExactHear.over
#print axioms fnExactHear_holds
end Go.Proofs.Ytdmhccheaemkkaa
