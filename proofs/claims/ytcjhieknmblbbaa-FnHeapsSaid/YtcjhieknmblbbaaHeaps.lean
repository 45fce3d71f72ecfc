/-
  PROVED: whatever the code, the law laws.FnHeaps returns true and leaves the code as it was: what is put in a drawn heap comes out in order, each once; what is dropped does not. No condition.
-/
import Derived.Test.YtcjhieknmblbbaaRows
import Derived.WalkKit
import Derived.ProofKit
import Derived.OpenShut
import Derived.ShutString
import Derived.ChangeOld
import Derived.Below
import Derived.WalkLawsBesides
import Derived.WalkSpells
import Derived.Test.YtcjhieknmblbbaaHpY
import Derived.Test.YtcjhieknmblbbaaHpQ
import Derived.Test.YtcjhieknmblbbaaHpI
import Derived.Deep.RegionHeld3
namespace Go.Proofs.Ytcjhieknmblbbaa.FnHeaps
open Go.ChangeShapes Go.WideShapes Go.ChangeAt Go.RowKit
open Go.ChangeMaps (open_string shut_string)
set_option linter.unusedVariables false

open Go.Proofs.Ytcjhieknmblbbaa.Tms hiding retB
open Go.Proofs.Ytcjhieknmblbbaa.Hp Go.Proofs.Ytcjhieknmblbbaa.TmO Go.Proofs.Ytcjhieknmblbbaa.TmR Go.Proofs.Ytcjhieknmblbbaa.HpS Go.Proofs.Ytcjhieknmblbbaa.HpD Go.Proofs.Ytcjhieknmblbbaa.HpT Go.Proofs.Ytcjhieknmblbbaa.HpO Go.Proofs.Ytcjhieknmblbbaa.HpI Go.Proofs.Ytcjhieknmblbbaa.HpQ Go.Proofs.Ytcjhieknmblbbaa.HpW Go.Proofs.Ytcjhieknmblbbaa.HpY Go.Proofs.Ytcjhieknmblbbaa.Draw Go.Proofs.Ytcjhieknmblbbaa.LawB Go.Proofs.Ytcjhieknmblbbaa.Over Go.Proofs.Ytcjhieknmblbbaa.Blk
set_option linter.unusedVariables false
theorem sameH_any (a a' : Option Addr) (cap cap' : Nat) (l : List Tm) (w : World) (hr : RdT w a l) (hr' : RdT w a' l) (hl : l.length ≤ 100) :
    Calls Try.prog 17 #[.slice a l.length cap, .slice a' l.length cap'] w fun e w' => e = .returned (.bool true) ∧ Below w.heap.size w w' :=
  (sameHeap_any a a' cap cap' l l w hr hr' (by unfold maxLen; omega) (by unfold maxLen; omega)).mono fun e w' h => ⟨h.1.trans (Tms.retB (decide_eq_true rfl)), h.2⟩
theorem ok_of {l : List Tm} (h : Heap l) (hs : ∀ t ∈ l, 0 ≤ t.1 ∧ 0 ≤ t.2) (hl : l.length ≤ 16) : heapOkB l = true := by
  unfold heapOkB; rw [(heapB_iff l).2 ⟨hs, h⟩, decide_eq_true hl]; rfl
theorem ot_at {lo M c : Nat} {w : World} {l : List Tm} (h : OT lo w M c l) {i : Nat} (hi : i < l.length) : w.cell? ⟨M, i * 2, none⟩ = some (.int .i64 (nthT l i).1) ∧ w.cell? ⟨M, i * 2 + 1, none⟩ = some (.int .i64 (nthT l i).2) := by
  obtain ⟨cs, h1, _, h2⟩ := h.row
  exact ⟨(h1.cell _).trans (h2 i hi).1, (h1.cell _).trans (h2 i hi).2⟩
/-- what is so of a drawn heap and one more -/
structure Is (l : List Tm) (x : Tm) (n dn : Nat) (X S Y D : List Tm) : Prop where
  okl : heapOkB l = true
  okX : heapOkB X = true
  okY : heapOkB Y = true
  okD : heapOkB D = true
  ll : l.length = n
  lX : X.length = n + 1
  lS : S.length = n + 1
  lY : Y.length = n
  lD : D.length = dn
  put : putT l x = X
  srt : sortT X = S
  tak : takeT X = Y
  drp : dropT X x.2 = D
  fst : fstT X = nthT S 0
  any : anyT X = true
  adj : ∀ i, 0 < i → i < n + 1 → befB (nthT S i) (nthT S (i - 1)) = false
  cnt : ∀ v, cntT S (n + 1) v = cntT X (n + 1) v
  dnB : dn + nB S (n + 1) x.2 = n + 1
  tail : ∃ v, S = v :: sortT Y
  n8 : n ≤ 8
theorem is_of {l : List Tm} {x : Tm} (h : Heap l) (hs : Smalls l) (hl : l.length ≤ 8) (hx : Small x) : Is l x l.length (dropT (putT l x) x.2).length (putT l x) (sortT (putT l x)) (takeT (putT l x)) (dropT (putT l x) x.2) := by
  have hX := put_heap (t := x) h
  have hsX : ∀ t ∈ putT l x, 0 ≤ t.1 ∧ 0 ≤ t.2 := fun t ht => by have := smalls_put hs hx t ht; exact ⟨this.1, this.2.2.1⟩
  have lX := put_len l x
  have ne := put_ne l x
  have lS : (sortT (putT l x)).length = l.length + 1 := by rw [sort_length, lX]
  have lY : (takeT (putT l x)).length = l.length := by rw [Hp.take_len, lX]; rfl
  have hd := drop_len_nB (putT l x) x.2
  have hp := sort_perm (putT l x)
  have hsame := nB_same hp x.2
  rw [lS, lX] at hsame
  have hnb := nB_le (putT l x) (putT l x).length x.2
  exact ⟨ok_of h (fun t ht => by have := hs t ht; exact ⟨this.1, this.2.2.1⟩) (by omega), ok_of hX hsX (by omega), ok_of (take_heap hX) (all_take hsX) (by omega), ok_of (drop_heap _ _) (all_drop _ hsX) (by rw [hd, lX]; omega), rfl, lX, lS, lY, rfl, rfl, rfl, rfl, rfl,
    by unfold fstT; rw [if_neg ne, sort_cons ne]; rfl, decide_eq_true ne, fun i h0 h1 => sort_adj hX h0 (by omega), fun v => by have := cnt_same hp v; rw [lS, lX] at this; exact this, by rw [hsame, hd, ← lX]; omega, ⟨_, sort_cons ne⟩, hl⟩
theorem ne_cases {x y : Tm} (h : x ≠ y) : ((x.1 == y.1) = true ∧ (x.2 == y.2) = false) ∨ ((x.1 == y.1) = false ∧ (x.2 == y.2) = true) ∨ ((x.1 == y.1) = false ∧ (x.2 == y.2) = false) := by
  by_cases h1 : x.1 = y.1
  · exact .inl ⟨by simpa using h1, by simpa using fun e => h (Prod.ext h1 e)⟩
  · by_cases h2 : x.2 = y.2
    · exact .inr (.inl ⟨by simpa using h1, by simpa using h2⟩)
    · exact .inr (.inr ⟨by simpa using h1, by simpa using h2⟩)
theorem rd_tail {w : World} {M : Nat} {v : Tm} {l : List Tm} (h : RdT w (some ⟨M, 0, none⟩) (v :: l)) : RdT w (some ⟨M, 2, none⟩) l := by
  rcases h with h | ⟨b, off, e, hb, hc⟩
  · cases h
  · cases e
    refine .inr ⟨M, 2, rfl, hb, fun i hi => ?_⟩
    have := hc (i + 1) (by simp; omega)
    have e1 : 0 + (i + 1) * 2 = 2 + i * 2 := by omega
    rw [e1] at this
    exact this
set_option maxRecDepth 100000 in
set_option maxHeartbeats 40000000 in
theorem core (a : Option Addr) (len cap : Nat) (w : World) (hl : len ≤ maxLen) (hb : Bytes w a len w.heap.size) :
    Calls Try.prog 3 #[.slice a len cap] w fun e w' => e = .returned (.bool true) ∧ Below w.heap.size w w' := by
  have HB : Hid (Bytes w a len w.heap.size) := hb
  have HL : Hid (len ≤ maxLen) := hl
  clear hb hl
  by_cases hbig : (1048576 : Int) < (len : Int)
  · have HC : Hid (Calls Try.prog 9 #[.slice a len cap] w fun e w' => e = .returned (.bool true) ∧ w' = w) := (big_any a len cap w HL.out).mono fun e w' h => ⟨h.1.trans (retB (decide_eq_true hbig)), h.2⟩
    go_enter Try.func3, Try.ntmps3
    go_wp2_with fail
    refine HC.out.mono ?_
    rintro e w1 ⟨rfl, rfl⟩
    go_wp2
    go_ret
    exact ⟨rfl, Below.refl _ _⟩
  have HC : Hid (Calls Try.prog 9 #[.slice a len cap] w fun e w' => e = .returned (.bool false) ∧ w' = w) := (big_any a len cap w HL.out).mono fun e w' h => ⟨h.1.trans (retB (decide_eq_false hbig)), h.2⟩
  go_enter Try.func3, Try.ntmps3
  go_wp2_with fail
  refine HC.out.mono ?_
  rintro e wq ⟨rfl, hw⟩
  obtain rfl := hw.symm
  clear HC hw
  have B_z0 : Hid (Below w.heap.size w w) := Below.refl _ _
  go_upto_region 3 with fail
  go_wp2_with fail
  refine (drawHeap_any a len cap _ HL.out HB.out).mono ?_
  rintro e w1 ⟨⟨M1, k1, l, x, rfl, h1, hh, hs, hl8, hx⟩, hb⟩
  obtain ⟨n, dn, X, S, Y, D, hI⟩ : ∃ n dn X S Y D, Is l x n dn X S Y D := ⟨_, _, _, _, _, _, is_of hh hs hl8 hx⟩
  have HI : Hid (Is l x n dn X S Y D) := hI
  have hn8 : n ≤ 8 := hI.n8
  clear hh hs hl8 hx hI
  rw [HI.out.ll]
  have NRL : Hid (OT w.heap.size w1 M1 k1 l) := h1.1
  have B_w1 : Hid (Below w.heap.size w w1) := hb
  clear B_z0
  have RL_w1 : Hid (OT w.heap.size w1 M1 k1 l) := NRL.out
  clear NRL
  clear hb
  go_upto_region 4 with fail
  generalize hz : w1.alloc (.cells #[.int .i64 x.1, .int .i64 x.2] 26) = z1
  have hbz : Below w1.heap.size w1 z1 := by rw [← hz]; exact Go.Joins.below_alloc1 w1 _
  have bT_z1 : Hid (Blk z1 w1.heap.size #[.int .i64 x.1, .int .i64 x.2] 26) := by rw [← hz]; exact (Blk.new _ _ _)
  clear hz
  have B_z1 : Hid (Below w.heap.size w z1) := grow_on B_w1.out hbz
  have RL_z1 : Hid (OT w.heap.size z1 M1 k1 l) := RL_w1.out.grow hbz
  clear B_w1 RL_w1
  clear hbz
  have HC : Hid (Calls Try.prog 11 #[.slice (some ⟨M1, 0, none⟩) n k1, .agg #[.int .i64 x.1, .int .i64 x.2]] z1 fun e w' => (∃ M c, e = .returned (.slice (some ⟨M, 0, none⟩) (n + 1) c) ∧ OT z1.heap.size w' M c X) ∧ Below z1.heap.size z1 w') := by
    have h := implPut_any M1 0 k1 l x z1 RL_z1.out.rd (by rw [HI.out.ll]; omega)
    rw [HI.out.put, HI.out.lX, HI.out.ll] at h
    exact h
  have cbT0 : z1.cell? ⟨w1.heap.size, 0, none⟩ = some (.int .i64 x.1) := bT_z1.out.cell 0
  have cbT1 : z1.cell? ⟨w1.heap.size, 1, none⟩ = some (.int .i64 x.2) := bT_z1.out.cell 1
  go_wp2_with fail
  refine (HC.out).mono ?_
  rintro e w2 ⟨⟨M2, k2, rfl, h2⟩, hb⟩
  clear cbT0 cbT1
  clear HC
  have NRX : Hid (OT z1.heap.size w2 M2 k2 X) := h2
  have B_w2 : Hid (Below w.heap.size w w2) := grow_on B_z1.out hb
  have RL_w2 : Hid (OT w.heap.size w2 M1 k1 l) := RL_z1.out.grow hb
  have bT_w2 : Hid (Blk w2 w1.heap.size #[.int .i64 x.1, .int .i64 x.2] 26) := bT_z1.out.grow hb
  clear B_z1 RL_z1 bT_z1
  have RX_w2 : Hid (OT z1.heap.size w2 M2 k2 X) := NRX.out
  clear NRX
  clear hb
  go_upto_region 5 with fail
  have HC : Hid (Calls Try.prog 12 #[.slice (some ⟨M2, 0, none⟩) (n + 1) k2] w2 fun e w' => (∃ M c, e = .returned (.slice (some ⟨M, 0, none⟩) (n + 1) c) ∧ OT w2.heap.size w' M c S) ∧ Below w2.heap.size w2 w') := by
    have h := implSorted_any M2 0 k2 X w2 RX_w2.out.rd (by rw [HI.out.lX]; omega)
    rw [HI.out.srt, HI.out.lX, HI.out.lS] at h
    exact h
  have cbT0 : w2.cell? ⟨w1.heap.size, 0, none⟩ = some (.int .i64 x.1) := bT_w2.out.cell 0
  have cbT1 : w2.cell? ⟨w1.heap.size, 1, none⟩ = some (.int .i64 x.2) := bT_w2.out.cell 1
  go_wp2_with fail
  refine (HC.out).mono ?_
  rintro e w3 ⟨⟨M3, k3, rfl, h3⟩, hb⟩
  clear cbT0 cbT1
  clear HC
  have NRS : Hid (OT w2.heap.size w3 M3 k3 S) := h3
  have B_w3 : Hid (Below w.heap.size w w3) := grow_on B_w2.out hb
  have RL_w3 : Hid (OT w.heap.size w3 M1 k1 l) := RL_w2.out.grow hb
  have bT_w3 : Hid (Blk w3 w1.heap.size #[.int .i64 x.1, .int .i64 x.2] 26) := bT_w2.out.grow hb
  have RX_w3 : Hid (OT z1.heap.size w3 M2 k2 X) := RX_w2.out.grow hb
  clear B_w2 RL_w2 bT_w2 RX_w2
  have RS_w3 : Hid (OT w2.heap.size w3 M3 k3 S) := NRS.out
  clear NRS
  clear hb
  go_upto_region 6 with fail
  have HC : Hid (Calls Try.prog 13 #[.slice (some ⟨M2, 0, none⟩) (n + 1) k2] w3 fun e w' => (∃ M c, e = .returned (.tuple #[.slice (some ⟨M, 0, none⟩) n c, .agg #[.int .i64 (nthT S 0).1, .int .i64 (nthT S 0).2], .bool true]) ∧ OT w3.heap.size w' M c Y) ∧ Below w3.heap.size w3 w') := by
    have h := implTake_any M2 0 k2 X w3 RX_w3.out.rd (by rw [HI.out.lX]; omega) RX_w3.out.le
    rw [HI.out.tak, HI.out.lX, HI.out.lY, HI.out.fst, HI.out.any] at h
    exact h
  have cbT0 : w3.cell? ⟨w1.heap.size, 0, none⟩ = some (.int .i64 x.1) := bT_w3.out.cell 0
  have cbT1 : w3.cell? ⟨w1.heap.size, 1, none⟩ = some (.int .i64 x.2) := bT_w3.out.cell 1
  go_wp2_with fail
  refine (HC.out).mono ?_
  rintro e w4 ⟨⟨M4, k4, rfl, h4⟩, hb⟩
  clear cbT0 cbT1
  clear HC
  have NRY : Hid (OT w3.heap.size w4 M4 k4 Y) := h4
  have B_w4 : Hid (Below w.heap.size w w4) := grow_on B_w3.out hb
  have RL_w4 : Hid (OT w.heap.size w4 M1 k1 l) := RL_w3.out.grow hb
  have bT_w4 : Hid (Blk w4 w1.heap.size #[.int .i64 x.1, .int .i64 x.2] 26) := bT_w3.out.grow hb
  have RX_w4 : Hid (OT z1.heap.size w4 M2 k2 X) := RX_w3.out.grow hb
  have RS_w4 : Hid (OT w2.heap.size w4 M3 k3 S) := RS_w3.out.grow hb
  clear B_w3 RL_w3 bT_w3 RX_w3 RS_w3
  have RY_w4 : Hid (OT w3.heap.size w4 M4 k4 Y) := NRY.out
  clear NRY
  clear hb
  go_upto_region 7 with fail
  generalize hz : w4.alloc (.cells #[.int .i64 (nthT S 0).1, .int .i64 (nthT S 0).2] 26) = z4
  have hbz : Below w4.heap.size w4 z4 := by rw [← hz]; exact Go.Joins.below_alloc1 w4 _
  have bF_z4 : Hid (Blk z4 w4.heap.size #[.int .i64 (nthT S 0).1, .int .i64 (nthT S 0).2] 26) := by rw [← hz]; exact (Blk.new _ _ _)
  clear hz
  have B_z4 : Hid (Below w.heap.size w z4) := grow_on B_w4.out hbz
  have RL_z4 : Hid (OT w.heap.size z4 M1 k1 l) := RL_w4.out.grow hbz
  have bT_z4 : Hid (Blk z4 w1.heap.size #[.int .i64 x.1, .int .i64 x.2] 26) := bT_w4.out.grow hbz
  have RX_z4 : Hid (OT z1.heap.size z4 M2 k2 X) := RX_w4.out.grow hbz
  have RS_z4 : Hid (OT w2.heap.size z4 M3 k3 S) := RS_w4.out.grow hbz
  have RY_z4 : Hid (OT w3.heap.size z4 M4 k4 Y) := RY_w4.out.grow hbz
  clear B_w4 RL_w4 bT_w4 RX_w4 RS_w4 RY_w4
  clear hbz
  have HC : Hid (Calls Try.prog 14 #[.slice (some ⟨M2, 0, none⟩) (n + 1) k2, .int .i64 x.2] z4 fun e w' => (∃ M c, e = .returned (.slice (some ⟨M, 0, none⟩) dn c) ∧ OT z4.heap.size w' M c D) ∧ Below z4.heap.size z4 w') := by
    have h := implDrop_any (some ⟨M2, 0, none⟩) k2 X x.2 z4 RX_z4.out.rd (by rw [HI.out.lX]; omega)
    rw [HI.out.drp, HI.out.lX, HI.out.lD] at h
    exact h
  have cbT0 : z4.cell? ⟨w1.heap.size, 0, none⟩ = some (.int .i64 x.1) := bT_z4.out.cell 0
  have cbT1 : z4.cell? ⟨w1.heap.size, 1, none⟩ = some (.int .i64 x.2) := bT_z4.out.cell 1
  go_wp2_with fail
  refine (HC.out).mono ?_
  rintro e w5 ⟨⟨M5, k5, rfl, h5⟩, hb⟩
  clear cbT0 cbT1
  clear HC
  have NRD : Hid (OT z4.heap.size w5 M5 k5 D) := h5
  have B_w5 : Hid (Below w.heap.size w w5) := grow_on B_z4.out hb
  have RL_w5 : Hid (OT w.heap.size w5 M1 k1 l) := RL_z4.out.grow hb
  have bT_w5 : Hid (Blk w5 w1.heap.size #[.int .i64 x.1, .int .i64 x.2] 26) := bT_z4.out.grow hb
  have RX_w5 : Hid (OT z1.heap.size w5 M2 k2 X) := RX_z4.out.grow hb
  have RS_w5 : Hid (OT w2.heap.size w5 M3 k3 S) := RS_z4.out.grow hb
  have RY_w5 : Hid (OT w3.heap.size w5 M4 k4 Y) := RY_z4.out.grow hb
  have bF_w5 : Hid (Blk w5 w4.heap.size #[.int .i64 (nthT S 0).1, .int .i64 (nthT S 0).2] 26) := bF_z4.out.grow hb
  clear B_z4 RL_z4 bT_z4 RX_z4 RS_z4 RY_z4 bF_z4
  have RD_w5 : Hid (OT z4.heap.size w5 M5 k5 D) := NRD.out
  clear NRD
  clear hb
  go_upto_region 8 with fail
  have C1 : Hid (∀ (u0 : World), Below w5.heap.size w5 u0 → Calls Try.prog 15 #[.slice (some ⟨M1, 0, none⟩) n k1] u0 fun e w' => e = .returned (.bool true) ∧ Below u0.heap.size u0 w') := fun u0 hu => by
    have h := implHeapOk_any (some ⟨M1, 0, none⟩) k1 l u0 (RL_w5.out.grow hu).rd (by have := RL_w5.out.le; have := RL_w5.out.cap; omega)
    rw [HI.out.okl, HI.out.ll] at h
    exact h
  have C5 : Hid (∀ (u0 : World), Below w5.heap.size w5 u0 → Calls Try.prog 15 #[.slice (some ⟨M2, 0, none⟩) (n + 1) k2] u0 fun e w' => e = .returned (.bool true) ∧ Below u0.heap.size u0 w') := fun u0 hu => by
    have h := implHeapOk_any (some ⟨M2, 0, none⟩) k2 X u0 (RX_w5.out.grow hu).rd (by have := RX_w5.out.le; have := RX_w5.out.cap; omega)
    rw [HI.out.okX, HI.out.lX] at h
    exact h
  have C10 : Hid (∀ (u0 : World), Below w5.heap.size w5 u0 → Calls Try.prog 15 #[.slice (some ⟨M4, 0, none⟩) n k4] u0 fun e w' => e = .returned (.bool true) ∧ Below u0.heap.size u0 w') := fun u0 hu => by
    have h := implHeapOk_any (some ⟨M4, 0, none⟩) k4 Y u0 (RY_w5.out.grow hu).rd (by have := RY_w5.out.le; have := RY_w5.out.cap; omega)
    rw [HI.out.okY, HI.out.lY] at h
    exact h
  have C15 : Hid (∀ (u0 : World), Below w5.heap.size w5 u0 → Calls Try.prog 15 #[.slice (some ⟨M5, 0, none⟩) dn k5] u0 fun e w' => e = .returned (.bool true) ∧ Below u0.heap.size u0 w') := fun u0 hu => by
    have h := implHeapOk_any (some ⟨M5, 0, none⟩) k5 D u0 (RD_w5.out.grow hu).rd (by have := RD_w5.out.le; have := RD_w5.out.cap; omega)
    rw [HI.out.okD, HI.out.lD] at h
    exact h
  have hw1 : IntKind.i64.wrap ((n : Int) + 1) = (n : Int) + 1 := by rw [IntKind.wrap_i64]; omega
  have hn1 : (0 : Int) < (n : Int) + 1 := by omega
  have HS : Hid (∀ w', Below w5.heap.size w5 w' → Below w5.heap.size w5 w' ∧ w'.cell? ⟨w4.heap.size, 0, none⟩ = some (.int .i64 (nthT S 0).1) ∧ w'.cell? ⟨w4.heap.size, 1, none⟩ = some (.int .i64 (nthT S 0).2) ∧ w'.cell? ⟨M3, 0, none⟩ = some (.int .i64 (nthT S 0).1) ∧ w'.cell? ⟨M3, 1, none⟩ = some (.int .i64 (nthT S 0).2)) := fun w' h => ⟨h, (bF_w5.out.grow h).cell 0, (bF_w5.out.grow h).cell 1, (ot_at (i := 0) (RS_w5.out.grow h) (by rw [HI.out.lS]; omega)).1, (ot_at (i := 0) (RS_w5.out.grow h) (by rw [HI.out.lS]; omega)).2⟩
  go_upto_region 8 with fail
  refine wp_region_held_drew (S := fun w' => Below w5.heap.size w5 w' ∧ w'.cell? ⟨w4.heap.size, 0, none⟩ = some (.int .i64 (nthT S 0).1) ∧ w'.cell? ⟨w4.heap.size, 1, none⟩ = some (.int .i64 (nthT S 0).2) ∧ w'.cell? ⟨M3, 0, none⟩ = some (.int .i64 (nthT S 0).1) ∧ w'.cell? ⟨M3, 1, none⟩ = some (.int .i64 (nthT S 0).2)) (by kernel_rfl) (HS.out _ (Below.refl _ _).drew) (fun hHeld => ?_)
  refine wpAnyH_take (i := 0) (oi := { dst := some 37, op := Op.move (Operand.tmp 3), type := 24, pos := "laws.go:465", after := #[], guard := none }) (v := ?vr0) rfl (by kernel_rfl) (by kernel_rfl) (by kernel_rfl) (fun _ _ _ h => h) (Or.inl ⟨by rfl, ?hyr0⟩) hHeld ?_
  case hyr0 => (intro w hSw; (try dsimp only at hSw); go_simp <;> with_reducible rfl)
  try simp only [Act.put, List.setIfInBounds_toArray, List.set_cons_zero, List.set_cons_succ]
  refine wpAnyH_ready (rs := [1]) (by kernel_rfl) (by simp) ?_
  refine AllReadyH.cons (o := { dst := some 38, op := Op.call { callee := Callee.value (Operand.func 15), args := #[Operand.tmp 37], argTypes := #[24] }, type := 4, pos := "laws.go:465", after := #[{ on := 0, ground := Ground.data }], guard := none }) rfl (fun K hK => ?_) AllReadyH.nil
  go_simp
  refine (C1.out _ hHeld.1).mono ?_
  rintro r wvr1 ⟨rfl, hy⟩
  have hz : Below w5.heap.size w5 wvr1 := grow_on hHeld.1 hy
  clear hHeld hy
  refine hK.out _ _ (HS.out _ hz) (fun hHeld => ?_)
  clear hK K hz
  try simp only [Act.put, List.setIfInBounds_toArray, List.set_cons_zero, List.set_cons_succ]
  refine wpAnyH_take (i := 2) (oi := { dst := some 39, op := Op.unOp UnOp.not 4 (Operand.tmp 38), type := 4, pos := "laws.go:465", after := #[{ on := 1, ground := Ground.data }], guard := none }) (v := ?vr2) rfl (by kernel_rfl) (by kernel_rfl) (by kernel_rfl) (fun _ _ _ h => h) (Or.inl ⟨by rfl, ?hyr2⟩) hHeld ?_
  case hyr2 => (intro w hSw; (try dsimp only at hSw); go_simp <;> with_reducible rfl)
  try simp only [Act.put, List.setIfInBounds_toArray, List.set_cons_zero, List.set_cons_succ]
  refine wpAnyH_take (i := 3) (oi := { dst := some 40, op := Op.move (Operand.tmp 39), type := 4, pos := "laws.go:465", after := #[{ on := 2, ground := Ground.data }, { on := 1, ground := Ground.chain }], guard := none }) (v := ?vr3) rfl (by kernel_rfl) (by kernel_rfl) (by kernel_rfl) (fun _ _ _ h => h) (Or.inl ⟨by rfl, ?hyr3⟩) hHeld ?_
  case hyr3 => (intro w hSw; (try dsimp only at hSw); go_simp <;> with_reducible rfl)
  try simp only [Act.put, List.setIfInBounds_toArray, List.set_cons_zero, List.set_cons_succ]
  refine wpAnyH_take (i := 4) (oi := { dst := some 41, op := Op.move (Operand.tmp 5), type := 24, pos := "laws.go:465", after := #[{ on := 3, ground := Ground.guard }], guard := some (3, false) }) (v := ?vr4) rfl (by kernel_rfl) (by kernel_rfl) (by kernel_rfl) (fun _ _ _ h => h) (Or.inl ⟨by rfl, ?hyr4⟩) hHeld ?_
  case hyr4 => (intro w hSw; (try dsimp only at hSw); go_simp <;> with_reducible rfl)
  try simp only [Act.put, List.setIfInBounds_toArray, List.set_cons_zero, List.set_cons_succ]
  refine wpAnyH_ready (rs := [5]) (by kernel_rfl) (by simp) ?_
  refine AllReadyH.cons (o := { dst := some 42, op := Op.call { callee := Callee.value (Operand.func 15), args := #[Operand.tmp 41], argTypes := #[24] }, type := 4, pos := "laws.go:465", after := #[{ on := 4, ground := Ground.data }, { on := 3, ground := Ground.chain }, { on := 3, ground := Ground.guard }], guard := some (3, false) }) rfl (fun K hK => ?_) AllReadyH.nil
  go_simp
  refine (C5.out _ hHeld.1).mono ?_
  rintro r wvr5 ⟨rfl, hy⟩
  have hz : Below w5.heap.size w5 wvr5 := grow_on hHeld.1 hy
  clear hHeld hy
  refine hK.out _ _ (HS.out _ hz) (fun hHeld => ?_)
  clear hK K hz
  try simp only [Act.put, List.setIfInBounds_toArray, List.set_cons_zero, List.set_cons_succ]
  refine wpAnyH_take (i := 6) (oi := { dst := some 43, op := Op.unOp UnOp.not 4 (Operand.tmp 42), type := 4, pos := "laws.go:465", after := #[{ on := 5, ground := Ground.data }, { on := 3, ground := Ground.guard }], guard := some (3, false) }) (v := ?vr6) rfl (by kernel_rfl) (by kernel_rfl) (by kernel_rfl) (fun _ _ _ h => h) (Or.inl ⟨by rfl, ?hyr6⟩) hHeld ?_
  case hyr6 => (intro w hSw; (try dsimp only at hSw); go_simp <;> with_reducible rfl)
  try simp only [Act.put, List.setIfInBounds_toArray, List.set_cons_zero, List.set_cons_succ]
  refine wpAnyH_take (i := 7) (oi := { dst := some 44, op := Op.pick (Operand.tmp 40) (Operand.const (Value.bool true)) (Operand.tmp 43), type := 4, pos := "laws.go:465", after := #[{ on := 3, ground := Ground.data }, { on := 6, ground := Ground.data }], guard := none }) (v := ?vr7) rfl (by kernel_rfl) (by kernel_rfl) (by kernel_rfl) (fun _ _ _ h => h) (Or.inl ⟨by rfl, ?hyr7⟩) hHeld ?_
  case hyr7 => (intro w hSw; (try dsimp only at hSw); go_simp <;> with_reducible rfl)
  try simp only [Act.put, List.setIfInBounds_toArray, List.set_cons_zero, List.set_cons_succ]
  refine wpAnyH_take (i := 8) (oi := { dst := some 45, op := Op.move (Operand.tmp 44), type := 4, pos := "laws.go:465", after := #[{ on := 7, ground := Ground.data }, { on := 5, ground := Ground.chain }], guard := none }) (v := ?vr8) rfl (by kernel_rfl) (by kernel_rfl) (by kernel_rfl) (fun _ _ _ h => h) (Or.inl ⟨by rfl, ?hyr8⟩) hHeld ?_
  case hyr8 => (intro w hSw; (try dsimp only at hSw); go_simp <;> with_reducible rfl)
  try simp only [Act.put, List.setIfInBounds_toArray, List.set_cons_zero, List.set_cons_succ]
  refine wpAnyH_take (i := 9) (oi := { dst := some 46, op := Op.move (Operand.tmp 7), type := 24, pos := "laws.go:465", after := #[{ on := 8, ground := Ground.guard }], guard := some (8, false) }) (v := ?vr9) rfl (by kernel_rfl) (by kernel_rfl) (by kernel_rfl) (fun _ _ _ h => h) (Or.inl ⟨by rfl, ?hyr9⟩) hHeld ?_
  case hyr9 => (intro w hSw; (try dsimp only at hSw); go_simp <;> with_reducible rfl)
  try simp only [Act.put, List.setIfInBounds_toArray, List.set_cons_zero, List.set_cons_succ]
  refine wpAnyH_ready (rs := [10]) (by kernel_rfl) (by simp) ?_
  refine AllReadyH.cons (o := { dst := some 47, op := Op.call { callee := Callee.value (Operand.func 15), args := #[Operand.tmp 46], argTypes := #[24] }, type := 4, pos := "laws.go:465", after := #[{ on := 9, ground := Ground.data }, { on := 8, ground := Ground.chain }, { on := 8, ground := Ground.guard }], guard := some (8, false) }) rfl (fun K hK => ?_) AllReadyH.nil
  go_simp
  refine (C10.out _ hHeld.1).mono ?_
  rintro r wvr10 ⟨rfl, hy⟩
  have hz : Below w5.heap.size w5 wvr10 := grow_on hHeld.1 hy
  clear hHeld hy
  refine hK.out _ _ (HS.out _ hz) (fun hHeld => ?_)
  clear hK K hz
  try simp only [Act.put, List.setIfInBounds_toArray, List.set_cons_zero, List.set_cons_succ]
  refine wpAnyH_take (i := 11) (oi := { dst := some 48, op := Op.unOp UnOp.not 4 (Operand.tmp 47), type := 4, pos := "laws.go:465", after := #[{ on := 10, ground := Ground.data }, { on := 8, ground := Ground.guard }], guard := some (8, false) }) (v := ?vr11) rfl (by kernel_rfl) (by kernel_rfl) (by kernel_rfl) (fun _ _ _ h => h) (Or.inl ⟨by rfl, ?hyr11⟩) hHeld ?_
  case hyr11 => (intro w hSw; (try dsimp only at hSw); go_simp <;> with_reducible rfl)
  try simp only [Act.put, List.setIfInBounds_toArray, List.set_cons_zero, List.set_cons_succ]
  refine wpAnyH_take (i := 12) (oi := { dst := some 49, op := Op.pick (Operand.tmp 45) (Operand.const (Value.bool true)) (Operand.tmp 48), type := 4, pos := "laws.go:465", after := #[{ on := 8, ground := Ground.data }, { on := 11, ground := Ground.data }], guard := none }) (v := ?vr12) rfl (by kernel_rfl) (by kernel_rfl) (by kernel_rfl) (fun _ _ _ h => h) (Or.inl ⟨by rfl, ?hyr12⟩) hHeld ?_
  case hyr12 => (intro w hSw; (try dsimp only at hSw); go_simp <;> with_reducible rfl)
  try simp only [Act.put, List.setIfInBounds_toArray, List.set_cons_zero, List.set_cons_succ]
  refine wpAnyH_take (i := 13) (oi := { dst := some 50, op := Op.move (Operand.tmp 49), type := 4, pos := "laws.go:465", after := #[{ on := 12, ground := Ground.data }, { on := 10, ground := Ground.chain }], guard := none }) (v := ?vr13) rfl (by kernel_rfl) (by kernel_rfl) (by kernel_rfl) (fun _ _ _ h => h) (Or.inl ⟨by rfl, ?hyr13⟩) hHeld ?_
  case hyr13 => (intro w hSw; (try dsimp only at hSw); go_simp <;> with_reducible rfl)
  try simp only [Act.put, List.setIfInBounds_toArray, List.set_cons_zero, List.set_cons_succ]
  refine wpAnyH_take (i := 14) (oi := { dst := some 51, op := Op.move (Operand.tmp 10), type := 24, pos := "laws.go:465", after := #[{ on := 13, ground := Ground.guard }], guard := some (13, false) }) (v := ?vr14) rfl (by kernel_rfl) (by kernel_rfl) (by kernel_rfl) (fun _ _ _ h => h) (Or.inl ⟨by rfl, ?hyr14⟩) hHeld ?_
  case hyr14 => (intro w hSw; (try dsimp only at hSw); go_simp <;> with_reducible rfl)
  try simp only [Act.put, List.setIfInBounds_toArray, List.set_cons_zero, List.set_cons_succ]
  refine wpAnyH_ready (rs := [15]) (by kernel_rfl) (by simp) ?_
  refine AllReadyH.cons (o := { dst := some 52, op := Op.call { callee := Callee.value (Operand.func 15), args := #[Operand.tmp 51], argTypes := #[24] }, type := 4, pos := "laws.go:465", after := #[{ on := 14, ground := Ground.data }, { on := 13, ground := Ground.chain }, { on := 13, ground := Ground.guard }], guard := some (13, false) }) rfl (fun K hK => ?_) AllReadyH.nil
  go_simp
  refine (C15.out _ hHeld.1).mono ?_
  rintro r wvr15 ⟨rfl, hy⟩
  have hz : Below w5.heap.size w5 wvr15 := grow_on hHeld.1 hy
  clear hHeld hy
  refine hK.out _ _ (HS.out _ hz) (fun hHeld => ?_)
  clear hK K hz
  try simp only [Act.put, List.setIfInBounds_toArray, List.set_cons_zero, List.set_cons_succ]
  refine wpAnyH_take (i := 16) (oi := { dst := some 53, op := Op.unOp UnOp.not 4 (Operand.tmp 52), type := 4, pos := "laws.go:465", after := #[{ on := 15, ground := Ground.data }, { on := 13, ground := Ground.guard }], guard := some (13, false) }) (v := ?vr16) rfl (by kernel_rfl) (by kernel_rfl) (by kernel_rfl) (fun _ _ _ h => h) (Or.inl ⟨by rfl, ?hyr16⟩) hHeld ?_
  case hyr16 => (intro w hSw; (try dsimp only at hSw); go_simp <;> with_reducible rfl)
  try simp only [Act.put, List.setIfInBounds_toArray, List.set_cons_zero, List.set_cons_succ]
  refine wpAnyH_take (i := 17) (oi := { dst := some 54, op := Op.pick (Operand.tmp 50) (Operand.const (Value.bool true)) (Operand.tmp 53), type := 4, pos := "laws.go:465", after := #[{ on := 13, ground := Ground.data }, { on := 16, ground := Ground.data }], guard := none }) (v := ?vr17) rfl (by kernel_rfl) (by kernel_rfl) (by kernel_rfl) (fun _ _ _ h => h) (Or.inl ⟨by rfl, ?hyr17⟩) hHeld ?_
  case hyr17 => (intro w hSw; (try dsimp only at hSw); go_simp <;> with_reducible rfl)
  try simp only [Act.put, List.setIfInBounds_toArray, List.set_cons_zero, List.set_cons_succ]
  refine wpAnyH_take (i := 18) (oi := { dst := some 55, op := Op.move (Operand.tmp 54), type := 4, pos := "laws.go:465", after := #[{ on := 17, ground := Ground.data }, { on := 15, ground := Ground.chain }], guard := none }) (v := ?vr18) rfl (by kernel_rfl) (by kernel_rfl) (by kernel_rfl) (fun _ _ _ h => h) (Or.inl ⟨by rfl, ?hyr18⟩) hHeld ?_
  case hyr18 => (intro w hSw; (try dsimp only at hSw); go_simp <;> with_reducible rfl)
  try simp only [Act.put, List.setIfInBounds_toArray, List.set_cons_zero, List.set_cons_succ]
  refine wpAnyH_take (i := 19) (oi := { dst := some 56, op := Op.move (Operand.tmp 9), type := 4, pos := "laws.go:465", after := #[{ on := 18, ground := Ground.guard }], guard := some (18, false) }) (v := ?vr19) rfl (by kernel_rfl) (by kernel_rfl) (by kernel_rfl) (fun _ _ _ h => h) (Or.inl ⟨by rfl, ?hyr19⟩) hHeld ?_
  case hyr19 => (intro w hSw; (try dsimp only at hSw); go_simp <;> with_reducible rfl)
  try simp only [Act.put, List.setIfInBounds_toArray, List.set_cons_zero, List.set_cons_succ]
  refine wpAnyH_take (i := 20) (oi := { dst := some 57, op := Op.unOp UnOp.not 4 (Operand.tmp 56), type := 4, pos := "laws.go:465", after := #[{ on := 19, ground := Ground.data }, { on := 18, ground := Ground.guard }], guard := some (18, false) }) (v := ?vr20) rfl (by kernel_rfl) (by kernel_rfl) (by kernel_rfl) (fun _ _ _ h => h) (Or.inl ⟨by rfl, ?hyr20⟩) hHeld ?_
  case hyr20 => (intro w hSw; (try dsimp only at hSw); go_simp <;> with_reducible rfl)
  try simp only [Act.put, List.setIfInBounds_toArray, List.set_cons_zero, List.set_cons_succ]
  refine wpAnyH_take (i := 21) (oi := { dst := some 58, op := Op.pick (Operand.tmp 55) (Operand.const (Value.bool true)) (Operand.tmp 57), type := 4, pos := "laws.go:465", after := #[{ on := 18, ground := Ground.data }, { on := 20, ground := Ground.data }], guard := none }) (v := ?vr21) rfl (by kernel_rfl) (by kernel_rfl) (by kernel_rfl) (fun _ _ _ h => h) (Or.inl ⟨by rfl, ?hyr21⟩) hHeld ?_
  case hyr21 => (intro w hSw; (try dsimp only at hSw); go_simp <;> with_reducible rfl)
  try simp only [Act.put, List.setIfInBounds_toArray, List.set_cons_zero, List.set_cons_succ]
  refine wpAnyH_take (i := 22) (oi := { dst := some 59, op := Op.move (Operand.tmp 58), type := 4, pos := "laws.go:465", after := #[{ on := 21, ground := Ground.data }, { on := 18, ground := Ground.chain }], guard := none }) (v := ?vr22) rfl (by kernel_rfl) (by kernel_rfl) (by kernel_rfl) (fun _ _ _ h => h) (Or.inl ⟨by rfl, ?hyr22⟩) hHeld ?_
  case hyr22 => (intro w hSw; (try dsimp only at hSw); go_simp <;> with_reducible rfl)
  try simp only [Act.put, List.setIfInBounds_toArray, List.set_cons_zero, List.set_cons_succ]
  refine wpAnyH_take (i := 23) (oi := { dst := some 60, op := Op.move (Operand.tmp 6), type := 24, pos := "laws.go:465", after := #[{ on := 22, ground := Ground.guard }], guard := some (22, false) }) (v := ?vr23) rfl (by kernel_rfl) (by kernel_rfl) (by kernel_rfl) (fun _ _ _ h => h) (Or.inl ⟨by rfl, ?hyr23⟩) hHeld ?_
  case hyr23 => (intro w hSw; (try dsimp only at hSw); go_simp <;> with_reducible rfl)
  try simp only [Act.put, List.setIfInBounds_toArray, List.set_cons_zero, List.set_cons_succ]
  refine wpAnyH_take (i := 24) (oi := { dst := some 61, op := Op.call { callee := Callee.builtin Builtin.len, args := #[Operand.tmp 60], argTypes := #[24] }, type := 3, pos := "laws.go:465", after := #[{ on := 23, ground := Ground.data }, { on := 22, ground := Ground.guard }], guard := some (22, false) }) (v := ?vr24) rfl (by kernel_rfl) (by kernel_rfl) (by kernel_rfl) (fun _ _ _ h => h) (Or.inl ⟨by rfl, ?hyr24⟩) hHeld ?_
  case hyr24 => (intro w hSw; (try dsimp only at hSw); go_simp <;> with_reducible rfl)
  try simp only [Act.put, List.setIfInBounds_toArray, List.set_cons_zero, List.set_cons_succ]
  refine wpAnyH_take (i := 25) (oi := { dst := some 62, op := Op.move (Operand.tmp 3), type := 24, pos := "laws.go:465", after := #[{ on := 22, ground := Ground.guard }], guard := some (22, false) }) (v := ?vr25) rfl (by kernel_rfl) (by kernel_rfl) (by kernel_rfl) (fun _ _ _ h => h) (Or.inl ⟨by rfl, ?hyr25⟩) hHeld ?_
  case hyr25 => (intro w hSw; (try dsimp only at hSw); go_simp <;> with_reducible rfl)
  try simp only [Act.put, List.setIfInBounds_toArray, List.set_cons_zero, List.set_cons_succ]
  refine wpAnyH_take (i := 26) (oi := { dst := some 63, op := Op.call { callee := Callee.builtin Builtin.len, args := #[Operand.tmp 62], argTypes := #[24] }, type := 3, pos := "laws.go:465", after := #[{ on := 25, ground := Ground.data }, { on := 22, ground := Ground.guard }], guard := some (22, false) }) (v := ?vr26) rfl (by kernel_rfl) (by kernel_rfl) (by kernel_rfl) (fun _ _ _ h => h) (Or.inl ⟨by rfl, ?hyr26⟩) hHeld ?_
  case hyr26 => (intro w hSw; (try dsimp only at hSw); go_simp <;> with_reducible rfl)
  try simp only [Act.put, List.setIfInBounds_toArray, List.set_cons_zero, List.set_cons_succ]
  refine wpAnyH_take (i := 27) (oi := { dst := some 64, op := Op.binOp BinOp.add 3 (Operand.tmp 63) (Operand.const (Value.int IntKind.i64 1)) 3, type := 3, pos := "laws.go:465", after := #[{ on := 26, ground := Ground.data }, { on := 22, ground := Ground.guard }], guard := some (22, false) }) (v := ?vr27) rfl (by kernel_rfl) (by kernel_rfl) (by kernel_rfl) (fun _ _ _ h => h) (Or.inl ⟨by rfl, ?hyr27⟩) hHeld ?_
  case hyr27 => (intro w hSw; (try dsimp only at hSw); go_simp <;> with_reducible rfl)
  try simp only [Act.put, List.setIfInBounds_toArray, List.set_cons_zero, List.set_cons_succ]
  refine wpAnyH_take (i := 28) (oi := { dst := some 65, op := Op.binOp BinOp.neq 3 (Operand.tmp 61) (Operand.tmp 64) 3, type := 4, pos := "laws.go:465", after := #[{ on := 24, ground := Ground.data }, { on := 27, ground := Ground.data }, { on := 22, ground := Ground.guard }], guard := some (22, false) }) (v := ?vr28) rfl (by kernel_rfl) (by kernel_rfl) (by kernel_rfl) (fun _ _ _ h => h) (Or.inl ⟨by rfl, ?hyr28⟩) hHeld ?_
  case hyr28 => (intro w hSw; (try dsimp only at hSw); go_simp <;> with_reducible rfl)
  try simp only [Act.put, List.setIfInBounds_toArray, List.set_cons_zero, List.set_cons_succ]
  refine wpAnyH_take (i := 29) (oi := { dst := some 66, op := Op.pick (Operand.tmp 59) (Operand.const (Value.bool true)) (Operand.tmp 65), type := 4, pos := "laws.go:465", after := #[{ on := 22, ground := Ground.data }, { on := 28, ground := Ground.data }], guard := none }) (v := ?vr29) rfl (by kernel_rfl) (by kernel_rfl) (by kernel_rfl) (fun _ _ _ h => h) (Or.inl ⟨by rfl, ?hyr29⟩) hHeld ?_
  case hyr29 => (intro w hSw; (try dsimp only at hSw); go_simp <;> with_reducible rfl)
  try simp only [Act.put, List.setIfInBounds_toArray, List.set_cons_zero, List.set_cons_succ]
  refine wpAnyH_take (i := 30) (oi := { dst := some 67, op := Op.move (Operand.tmp 66), type := 4, pos := "laws.go:465", after := #[{ on := 29, ground := Ground.data }, { on := 22, ground := Ground.chain }], guard := none }) (v := ?vr30) rfl (by kernel_rfl) (by kernel_rfl) (by kernel_rfl) (fun _ _ _ h => h) (Or.inl ⟨by rfl, ?hyr30⟩) hHeld ?_
  case hyr30 => (intro w hSw; (try dsimp only at hSw); go_simp <;> with_reducible rfl)
  try simp only [Act.put, List.setIfInBounds_toArray, List.set_cons_zero, List.set_cons_succ]
  refine wpAnyH_take (i := 31) (oi := { dst := some 68, op := Op.move (Operand.tmp 7), type := 24, pos := "laws.go:465", after := #[{ on := 30, ground := Ground.guard }], guard := some (30, false) }) (v := ?vr31) rfl (by kernel_rfl) (by kernel_rfl) (by kernel_rfl) (fun _ _ _ h => h) (Or.inl ⟨by rfl, ?hyr31⟩) hHeld ?_
  case hyr31 => (intro w hSw; (try dsimp only at hSw); go_simp <;> with_reducible rfl)
  try simp only [Act.put, List.setIfInBounds_toArray, List.set_cons_zero, List.set_cons_succ]
  refine wpAnyH_take (i := 32) (oi := { dst := some 69, op := Op.call { callee := Callee.builtin Builtin.len, args := #[Operand.tmp 68], argTypes := #[24] }, type := 3, pos := "laws.go:465", after := #[{ on := 31, ground := Ground.data }, { on := 30, ground := Ground.guard }], guard := some (30, false) }) (v := ?vr32) rfl (by kernel_rfl) (by kernel_rfl) (by kernel_rfl) (fun _ _ _ h => h) (Or.inl ⟨by rfl, ?hyr32⟩) hHeld ?_
  case hyr32 => (intro w hSw; (try dsimp only at hSw); go_simp <;> with_reducible rfl)
  try simp only [Act.put, List.setIfInBounds_toArray, List.set_cons_zero, List.set_cons_succ]
  refine wpAnyH_take (i := 33) (oi := { dst := some 70, op := Op.move (Operand.tmp 3), type := 24, pos := "laws.go:465", after := #[{ on := 30, ground := Ground.guard }], guard := some (30, false) }) (v := ?vr33) rfl (by kernel_rfl) (by kernel_rfl) (by kernel_rfl) (fun _ _ _ h => h) (Or.inl ⟨by rfl, ?hyr33⟩) hHeld ?_
  case hyr33 => (intro w hSw; (try dsimp only at hSw); go_simp <;> with_reducible rfl)
  try simp only [Act.put, List.setIfInBounds_toArray, List.set_cons_zero, List.set_cons_succ]
  refine wpAnyH_take (i := 34) (oi := { dst := some 71, op := Op.call { callee := Callee.builtin Builtin.len, args := #[Operand.tmp 70], argTypes := #[24] }, type := 3, pos := "laws.go:465", after := #[{ on := 33, ground := Ground.data }, { on := 30, ground := Ground.guard }], guard := some (30, false) }) (v := ?vr34) rfl (by kernel_rfl) (by kernel_rfl) (by kernel_rfl) (fun _ _ _ h => h) (Or.inl ⟨by rfl, ?hyr34⟩) hHeld ?_
  case hyr34 => (intro w hSw; (try dsimp only at hSw); go_simp <;> with_reducible rfl)
  try simp only [Act.put, List.setIfInBounds_toArray, List.set_cons_zero, List.set_cons_succ]
  refine wpAnyH_take (i := 35) (oi := { dst := some 72, op := Op.binOp BinOp.neq 3 (Operand.tmp 69) (Operand.tmp 71) 3, type := 4, pos := "laws.go:465", after := #[{ on := 32, ground := Ground.data }, { on := 34, ground := Ground.data }, { on := 30, ground := Ground.guard }], guard := some (30, false) }) (v := ?vr35) rfl (by kernel_rfl) (by kernel_rfl) (by kernel_rfl) (fun _ _ _ h => h) (Or.inl ⟨by rfl, ?hyr35⟩) hHeld ?_
  case hyr35 => (intro w hSw; (try dsimp only at hSw); go_simp <;> with_reducible rfl)
  try simp only [Act.put, List.setIfInBounds_toArray, List.set_cons_zero, List.set_cons_succ]
  refine wpAnyH_take (i := 36) (oi := { dst := some 73, op := Op.pick (Operand.tmp 67) (Operand.const (Value.bool true)) (Operand.tmp 72), type := 4, pos := "laws.go:465", after := #[{ on := 30, ground := Ground.data }, { on := 35, ground := Ground.data }], guard := none }) (v := ?vr36) rfl (by kernel_rfl) (by kernel_rfl) (by kernel_rfl) (fun _ _ _ h => h) (Or.inl ⟨by rfl, ?hyr36⟩) hHeld ?_
  case hyr36 => (intro w hSw; (try dsimp only at hSw); go_simp <;> with_reducible rfl)
  try simp only [Act.put, List.setIfInBounds_toArray, List.set_cons_zero, List.set_cons_succ]
  refine wpAnyH_take (i := 37) (oi := { dst := some 74, op := Op.move (Operand.tmp 73), type := 4, pos := "laws.go:465", after := #[{ on := 36, ground := Ground.data }, { on := 30, ground := Ground.chain }], guard := none }) (v := ?vr37) rfl (by kernel_rfl) (by kernel_rfl) (by kernel_rfl) (fun _ _ _ h => h) (Or.inl ⟨by rfl, ?hyr37⟩) hHeld ?_
  case hyr37 => (intro w hSw; (try dsimp only at hSw); go_simp <;> with_reducible rfl)
  try simp only [Act.put, List.setIfInBounds_toArray, List.set_cons_zero, List.set_cons_succ]
  refine wpAnyH_take (i := 38) (oi := { dst := some 75, op := Op.load 26 (Operand.tmp 8), type := 26, pos := "laws.go:465", after := #[{ on := 37, ground := Ground.guard }], guard := some (37, false) }) (v := ?vr38) rfl (by kernel_rfl) (by kernel_rfl) (by kernel_rfl) (fun _ _ _ h => h) (Or.inl ⟨by rfl, ?hyr38⟩) hHeld ?_
  case hyr38 => (intro w hSw; (try dsimp only at hSw); go_simp <;> with_reducible rfl)
  try simp only [Act.put, List.setIfInBounds_toArray, List.set_cons_zero, List.set_cons_succ]
  refine wpAnyH_take (i := 39) (oi := { dst := some 76, op := Op.move (Operand.tmp 6), type := 24, pos := "laws.go:465", after := #[{ on := 37, ground := Ground.guard }], guard := some (37, false) }) (v := ?vr39) rfl (by kernel_rfl) (by kernel_rfl) (by kernel_rfl) (fun _ _ _ h => h) (Or.inl ⟨by rfl, ?hyr39⟩) hHeld ?_
  case hyr39 => (intro w hSw; (try dsimp only at hSw); go_simp <;> with_reducible rfl)
  try simp only [Act.put, List.setIfInBounds_toArray, List.set_cons_zero, List.set_cons_succ]
  refine wpAnyH_take (i := 40) (oi := { dst := some 77, op := Op.indexAddr 24 (Operand.tmp 76) (Operand.const (Value.int IntKind.i64 0)), type := 0, pos := "laws.go:465", after := #[{ on := 39, ground := Ground.data }, { on := 37, ground := Ground.guard }], guard := some (37, false) }) (v := ?vr40) rfl (by kernel_rfl) (by kernel_rfl) (by kernel_rfl) (fun _ _ _ h => h) (Or.inl ⟨by rfl, ?hyr40⟩) hHeld ?_
  case hyr40 => (intro w hSw; (try dsimp only at hSw); go_simp <;> with_reducible rfl)
  try simp only [Act.put, List.setIfInBounds_toArray, List.set_cons_zero, List.set_cons_succ]
  refine wpAnyH_take (i := 41) (oi := { dst := some 78, op := Op.load 26 (Operand.tmp 77), type := 26, pos := "laws.go:465", after := #[{ on := 40, ground := Ground.data }, { on := 37, ground := Ground.guard }], guard := some (37, false) }) (v := ?vr41) rfl (by kernel_rfl) (by kernel_rfl) (by kernel_rfl) (fun _ _ _ h => h) (Or.inl ⟨by rfl, ?hyr41⟩) hHeld ?_
  case hyr41 => (intro w hSw; (try dsimp only at hSw); go_simp <;> with_reducible rfl)
  try simp only [Act.put, List.setIfInBounds_toArray, List.set_cons_zero, List.set_cons_succ]
  refine wpAnyH_take (i := 42) (oi := { dst := some 79, op := Op.binOp BinOp.neq 26 (Operand.tmp 75) (Operand.tmp 78) 26, type := 4, pos := "laws.go:465", after := #[{ on := 38, ground := Ground.data }, { on := 41, ground := Ground.data }, { on := 37, ground := Ground.guard }], guard := some (37, false) }) (v := ?vr42) rfl (by kernel_rfl) (by kernel_rfl) (by kernel_rfl) (fun _ _ _ h => h) (Or.inl ⟨by rfl, ?hyr42⟩) hHeld ?_
  case hyr42 => (intro w hSw; (try dsimp only at hSw); go_simp <;> with_reducible rfl)
  try simp only [Act.put, List.setIfInBounds_toArray, List.set_cons_zero, List.set_cons_succ]
  refine wpAnyH_take (i := 43) (oi := { dst := some 80, op := Op.pick (Operand.tmp 74) (Operand.const (Value.bool true)) (Operand.tmp 79), type := 4, pos := "laws.go:465", after := #[{ on := 37, ground := Ground.data }, { on := 42, ground := Ground.data }], guard := none }) (v := ?vr43) rfl (by kernel_rfl) (by kernel_rfl) (by kernel_rfl) (fun _ _ _ h => h) (Or.inl ⟨by rfl, ?hyr43⟩) hHeld ?_
  case hyr43 => (intro w hSw; (try dsimp only at hSw); go_simp <;> with_reducible rfl)
  try simp only [Act.put, List.setIfInBounds_toArray, List.set_cons_zero, List.set_cons_succ]
  refine wpAnyH_done (by kernel_rfl) ?_ _
  have hb := hHeld.1
  clear hHeld HS C1 C5 C10 C15
  clear RL_w5
  clear RD_w5
  clear bF_w5
  have B_wvr15 : Hid (Below w.heap.size w wvr15) := grow_on B_w5.out hb
  have bT_wvr15 : Hid (Blk wvr15 w1.heap.size #[.int .i64 x.1, .int .i64 x.2] 26) := bT_w5.out.grow hb
  have RX_wvr15 : Hid (OT z1.heap.size wvr15 M2 k2 X) := RX_w5.out.grow hb
  have RS_wvr15 : Hid (OT w2.heap.size wvr15 M3 k3 S) := RS_w5.out.grow hb
  have RY_wvr15 : Hid (OT w3.heap.size wvr15 M4 k4 Y) := RY_w5.out.grow hb
  clear B_w5 bT_w5 RX_w5 RS_w5 RY_w5
  clear hb
  go_wp2
  go_loopw [11, 12] (fun nn ii w' => ∃ i : Nat, i ≤ n + 1 ∧ ii = .int .i64 i ∧ nn = .int .i64 ((nB S i x.2 : Nat) : Int) ∧ Below wvr15.heap.size wvr15 w') (fun _ ii _ => n + 1 - (intOf ii).toNat)
  case atStart => exact ⟨0, by omega, rfl, rfl, Below.refl _ _⟩
  case round =>
    obtain ⟨i, hi, rfl, rfl, hb⟩ := hrel
    have HBr : Hid (Below wvr15.heap.size wvr15 wr) := hb
    clear hb
    by_cases hlt : i < n + 1
    ·
      go_upto_region 14 with fail
      go_cut [100] from 87 to 101 (fun s100 wx => s100 = .bool false ∧ Below wvr15.heap.size wvr15 wx)
      case first =>
        by_cases i0 : i = 0
        ·
          have di : decide (0 < i) = false := decide_eq_false (by omega)
          have hne := Grown.some wr
          clear i0
          refine wp_over (z := wr) (by kernel_rfl) (by kernel_rfl) (Below.refl _ _) ?_
          repeat (go_big_quiet_step (fail))
          refine wpQuiet_nil ?_
          intro w2 hw2
          have hb2 : Below wvr15.heap.size wvr15 w2 := grow_on HBr.out (over_bel hw2)
          clear hw2 hne
          go_wp2_with fail
          go_meet
          exact ⟨rfl, hb2⟩
        ·
          have di : decide (0 < i) = true := decide_eq_true (by omega)
          obtain ⟨p, hp⟩ : ∃ p, i = p + 1 := ⟨i - 1, by omega⟩
          have ep : (i : Int) - 1 = (p : Int) := by omega
          have hpl : (p : Int) < (n : Int) + 1 := by omega
          have hil : (i : Int) < (n : Int) + 1 := by omega
          have hpn : p < n + 1 := by omega
          have HA : Hid (befB (nthT S i) (nthT S p) = false) := by
            have h := HI.out.adj i (by omega) hlt
            have e : i - 1 = p := by omega
            rw [e] at h
            exact h
          have HCb : ∀ w, Hid (Calls Try.prog 16 #[.agg #[.int .i64 (nthT S i).1, .int .i64 (nthT S i).2], .agg #[.int .i64 (nthT S p).1, .int .i64 (nthT S p).2]] w fun e w' => e = .returned (.bool false) ∧ Below w.heap.size w w') := fun w => (implBefore_any (nthT S i) (nthT S p) w).mono fun e w' h => ⟨h.1.trans (Tms.retB HA.out), h.2⟩
          clear hp i0 HA
          have qa0 := ot_at (i := i) (RS_wvr15.out.grow HBr.out) (by rw [HI.out.lS]; omega)
          have ma0 := (RS_wvr15.out.grow HBr.out).lt
          have xa0 := fun q : Grown wr => q.cell (p := ⟨M3, i * 2, none⟩) ma0 qa0.1
          have ya0 := fun q : Grown wr => q.cell (p := ⟨M3, i * 2 + 1, none⟩) ma0 qa0.2
          have qa1 := ot_at (i := p) (RS_wvr15.out.grow HBr.out) (by rw [HI.out.lS]; omega)
          have ma1 := (RS_wvr15.out.grow HBr.out).lt
          have xa1 := fun q : Grown wr => q.cell (p := ⟨M3, p * 2, none⟩) ma1 qa1.1
          have ya1 := fun q : Grown wr => q.cell (p := ⟨M3, p * 2 + 1, none⟩) ma1 qa1.2
          have hnea := Grown.some wr
          refine wp_over (z := wr) (by kernel_rfl) (by kernel_rfl) (Below.refl _ _) ?_
          repeat (go_big_quiet_step (first | (go_at_call 16; exact call_over (HCb _).out)))
          refine wpQuiet_nil ?_
          intro w2 hw2
          have hb2 : Below wvr15.heap.size wvr15 w2 := grow_on HBr.out (over_bel hw2)
          clear hw2 qa0 ma0 xa0 ya0 qa1 ma1 xa1 ya1 hnea
          go_wp2_with fail
          go_meet
          exact ⟨rfl, hb2⟩
      case rest =>
        obtain ⟨rfl, hbc⟩ := hcut
        have HBc : Hid (Below wvr15.heap.size wvr15 wc) := hbc
        clear hbc HBr
        have hil : (i : Int) < (n : Int) + 1 := by omega
        obtain ⟨v, hv⟩ : ∃ v, nthT S i = v := ⟨_, rfl⟩
        have HV : Hid (nthT S i = v) := hv
        clear hv
        by_cases eN : v.2 = x.2
        ·
          have HNB : Hid (((nB S (i + 1) x.2 : Nat) : Int) = ((nB S i x.2 : Nat) : Int) + 1) := by unfold Hid; rw [nB_up (by rw [HI.out.lS]; exact hlt), HV.out, if_pos eN]; omega
          have hnb := nB_le S i x.2
          have eN1 : (v.2 == x.2) = true := by simpa using eN
          clear eN
          have qd0 := ot_at (i := i) (RS_wvr15.out.grow HBc.out) (by rw [HI.out.lS]; omega)
          have md0 := (RS_wvr15.out.grow HBc.out).lt
          have xd0 := fun q : Grown wc => q.cell (p := ⟨M3, i * 2, none⟩) md0 qd0.1
          have yd0 := fun q : Grown wc => q.cell (p := ⟨M3, i * 2 + 1, none⟩) md0 qd0.2
          have hned := Grown.some wc
          rw [HV.out] at xd0 yd0
          have mT := (bT_wvr15.out.grow HBc.out).lt
          have xT := fun q : Grown wc => q.cell (p := ⟨w1.heap.size, 1, none⟩) mT ((bT_wvr15.out.grow HBc.out).cell 1)
          generalize nB S i x.2 = nb at *
          go_wp2
          refine wp_over (z := wc) (by kernel_rfl) (by kernel_rfl) (Below.refl _ _) ?_
          repeat (go_big_quiet_step (fail))
          refine wpQuiet_nil ?_
          intro w2 hw2
          have HB2 : Hid (Below wvr15.heap.size wvr15 w2) := grow_on HBc.out (over_bel hw2)
          clear hw2 qd0 md0 xd0 yd0 hned mT xT eN1
          go_wp2
          go_loopw [13, 14] (fun kk jj w' => ∃ j : Nat, j ≤ n + 1 ∧ jj = .int .i64 j ∧ kk = .int .i64 ((cntT S j v : Int) - (cntT X j v : Int)) ∧ Below wvr15.heap.size wvr15 w') (fun _ jj _ => n + 1 - (intOf jj).toNat)
          case atStart => exact ⟨0, by omega, rfl, rfl, HB2.out⟩
          case round =>
            obtain ⟨j, hj, rfl, rfl, hb⟩ := hrel
            have HBj : Hid (Below wvr15.heap.size wvr15 wr) := hb
            clear hb HB2
            have c1 := cnt_le S j v
            have c2 := cnt_le X j v
            by_cases hjl : j < n + 1
            ·
              have hjl' : (j : Int) < (n : Int) + 1 := by omega
              have HS1 : Hid (cntT S (j + 1) v = cntT S j v + (if nthT S j = v then 1 else 0)) := cnt_up (by rw [HI.out.lS]; exact hjl) v
              have HX1 : Hid (cntT X (j + 1) v = cntT X j v + (if nthT X j = v then 1 else 0)) := cnt_up (by rw [HI.out.lX]; exact hjl) v
              generalize cntT S j v = cs at *
              generalize cntT X j v = cx at *
              by_cases ea : nthT S j = v
              ·
                by_cases eb : nthT X j = v
                ·
                  have HK : Hid (((cntT S (j + 1) v : Nat) : Int) - ((cntT X (j + 1) v : Nat) : Int) = (cs : Int) - (cx : Int) + 1 - 1) := by unfold Hid; rw [HS1.out, HX1.out, if_pos ea, if_pos eb]; omega
                  have ea1 : ((nthT S j).1 == v.1) = true := by rw [ea]; simp
                  have ea2 : ((nthT S j).2 == v.2) = true := by rw [ea]; simp
                  have qb0 := ot_at (i := j) (RS_wvr15.out.grow HBj.out) (by rw [HI.out.lS]; omega)
                  have mb0 := (RS_wvr15.out.grow HBj.out).lt
                  have xb0 := fun q : Grown wr => q.cell (p := ⟨M3, j * 2, none⟩) mb0 qb0.1
                  have yb0 := fun q : Grown wr => q.cell (p := ⟨M3, j * 2 + 1, none⟩) mb0 qb0.2
                  have qb1 := ot_at (i := i) (RS_wvr15.out.grow HBj.out) (by rw [HI.out.lS]; omega)
                  have mb1 := (RS_wvr15.out.grow HBj.out).lt
                  have xb1 := fun q : Grown wr => q.cell (p := ⟨M3, i * 2, none⟩) mb1 qb1.1
                  have yb1 := fun q : Grown wr => q.cell (p := ⟨M3, i * 2 + 1, none⟩) mb1 qb1.2
                  have hneb := Grown.some wr
                  rw [HV.out] at xb1 yb1
                  go_wp2
                  refine wp_over (z := wr) (by kernel_rfl) (by kernel_rfl) (Below.refl _ _) ?_
                  repeat (go_big_quiet_step (fail))
                  refine wpQuiet_nil ?_
                  intro w2 hw2
                  have HB2 : Hid (Below wvr15.heap.size wvr15 w2) := grow_on HBj.out (over_bel hw2)
                  clear hw2 qb0 mb0 xb0 yb0 qb1 mb1 xb1 yb1 hneb ea1 ea2
                  have eb1 : ((nthT X j).1 == v.1) = true := by rw [eb]; simp
                  have eb2 : ((nthT X j).2 == v.2) = true := by rw [eb]; simp
                  have qc0 := ot_at (i := j) (RX_wvr15.out.grow HB2.out) (by rw [HI.out.lX]; omega)
                  have mc0 := (RX_wvr15.out.grow HB2.out).lt
                  have xc0 := fun q : Grown w2 => q.cell (p := ⟨M2, j * 2, none⟩) mc0 qc0.1
                  have yc0 := fun q : Grown w2 => q.cell (p := ⟨M2, j * 2 + 1, none⟩) mc0 qc0.2
                  have qc1 := ot_at (i := i) (RS_wvr15.out.grow HB2.out) (by rw [HI.out.lS]; omega)
                  have mc1 := (RS_wvr15.out.grow HB2.out).lt
                  have xc1 := fun q : Grown w2 => q.cell (p := ⟨M3, i * 2, none⟩) mc1 qc1.1
                  have yc1 := fun q : Grown w2 => q.cell (p := ⟨M3, i * 2 + 1, none⟩) mc1 qc1.2
                  have hnec := Grown.some w2
                  rw [HV.out] at xc1 yc1
                  go_wp2
                  refine wp_over (z := w2) (by kernel_rfl) (by kernel_rfl) (Below.refl _ _) ?_
                  repeat (go_big_quiet_step (fail))
                  refine wpQuiet_nil ?_
                  intro w3 hw2
                  have HB3 : Hid (Below wvr15.heap.size wvr15 w3) := grow_on HB2.out (over_bel hw2)
                  clear hw2 qc0 mc0 xc0 yc0 qc1 mc1 xc1 yc1 hnec eb1 eb2
                  go_wp2
                  go_roundw
                  case rel => exact ⟨j + 1, by omega, by go_num, by (rw [HK.out]; try go_num), HB3.out⟩
                  case measure => simp [intOf]; omega
                ·
                  have HK : Hid (((cntT S (j + 1) v : Nat) : Int) - ((cntT X (j + 1) v : Nat) : Int) = (cs : Int) - (cx : Int) + 1 - 0) := by unfold Hid; rw [HS1.out, HX1.out, if_pos ea, if_neg eb]; omega
                  have ea1 : ((nthT S j).1 == v.1) = true := by rw [ea]; simp
                  have ea2 : ((nthT S j).2 == v.2) = true := by rw [ea]; simp
                  have qb0 := ot_at (i := j) (RS_wvr15.out.grow HBj.out) (by rw [HI.out.lS]; omega)
                  have mb0 := (RS_wvr15.out.grow HBj.out).lt
                  have xb0 := fun q : Grown wr => q.cell (p := ⟨M3, j * 2, none⟩) mb0 qb0.1
                  have yb0 := fun q : Grown wr => q.cell (p := ⟨M3, j * 2 + 1, none⟩) mb0 qb0.2
                  have qb1 := ot_at (i := i) (RS_wvr15.out.grow HBj.out) (by rw [HI.out.lS]; omega)
                  have mb1 := (RS_wvr15.out.grow HBj.out).lt
                  have xb1 := fun q : Grown wr => q.cell (p := ⟨M3, i * 2, none⟩) mb1 qb1.1
                  have yb1 := fun q : Grown wr => q.cell (p := ⟨M3, i * 2 + 1, none⟩) mb1 qb1.2
                  have hneb := Grown.some wr
                  rw [HV.out] at xb1 yb1
                  go_wp2
                  refine wp_over (z := wr) (by kernel_rfl) (by kernel_rfl) (Below.refl _ _) ?_
                  repeat (go_big_quiet_step (fail))
                  refine wpQuiet_nil ?_
                  intro w2 hw2
                  have HB2 : Hid (Below wvr15.heap.size wvr15 w2) := grow_on HBj.out (over_bel hw2)
                  clear hw2 qb0 mb0 xb0 yb0 qb1 mb1 xb1 yb1 hneb ea1 ea2
                  rcases ne_cases eb with ⟨eb1, eb2⟩ | ⟨eb1, eb2⟩ | ⟨eb1, eb2⟩
                  all_goals
                    have qc0 := ot_at (i := j) (RX_wvr15.out.grow HB2.out) (by rw [HI.out.lX]; omega)
                    have mc0 := (RX_wvr15.out.grow HB2.out).lt
                    have xc0 := fun q : Grown w2 => q.cell (p := ⟨M2, j * 2, none⟩) mc0 qc0.1
                    have yc0 := fun q : Grown w2 => q.cell (p := ⟨M2, j * 2 + 1, none⟩) mc0 qc0.2
                    have qc1 := ot_at (i := i) (RS_wvr15.out.grow HB2.out) (by rw [HI.out.lS]; omega)
                    have mc1 := (RS_wvr15.out.grow HB2.out).lt
                    have xc1 := fun q : Grown w2 => q.cell (p := ⟨M3, i * 2, none⟩) mc1 qc1.1
                    have yc1 := fun q : Grown w2 => q.cell (p := ⟨M3, i * 2 + 1, none⟩) mc1 qc1.2
                    have hnec := Grown.some w2
                    rw [HV.out] at xc1 yc1
                    go_wp2
                    refine wp_over (z := w2) (by kernel_rfl) (by kernel_rfl) (Below.refl _ _) ?_
                    repeat (go_big_quiet_step (fail))
                    refine wpQuiet_nil ?_
                    intro w3 hw2
                    have HB3 : Hid (Below wvr15.heap.size wvr15 w3) := grow_on HB2.out (over_bel hw2)
                    clear hw2 qc0 mc0 xc0 yc0 qc1 mc1 xc1 yc1 hnec eb1 eb2
                    go_wp2
                    go_roundw
                    case rel => exact ⟨j + 1, by omega, by go_num, by (rw [HK.out]; try go_num), HB3.out⟩
                    case measure => simp [intOf]; omega
              ·
                by_cases eb : nthT X j = v
                ·
                  have HK : Hid (((cntT S (j + 1) v : Nat) : Int) - ((cntT X (j + 1) v : Nat) : Int) = (cs : Int) - (cx : Int) + 0 - 1) := by unfold Hid; rw [HS1.out, HX1.out, if_neg ea, if_pos eb]; omega
                  rcases ne_cases ea with ⟨ea1, ea2⟩ | ⟨ea1, ea2⟩ | ⟨ea1, ea2⟩
                  all_goals
                    have qb0 := ot_at (i := j) (RS_wvr15.out.grow HBj.out) (by rw [HI.out.lS]; omega)
                    have mb0 := (RS_wvr15.out.grow HBj.out).lt
                    have xb0 := fun q : Grown wr => q.cell (p := ⟨M3, j * 2, none⟩) mb0 qb0.1
                    have yb0 := fun q : Grown wr => q.cell (p := ⟨M3, j * 2 + 1, none⟩) mb0 qb0.2
                    have qb1 := ot_at (i := i) (RS_wvr15.out.grow HBj.out) (by rw [HI.out.lS]; omega)
                    have mb1 := (RS_wvr15.out.grow HBj.out).lt
                    have xb1 := fun q : Grown wr => q.cell (p := ⟨M3, i * 2, none⟩) mb1 qb1.1
                    have yb1 := fun q : Grown wr => q.cell (p := ⟨M3, i * 2 + 1, none⟩) mb1 qb1.2
                    have hneb := Grown.some wr
                    rw [HV.out] at xb1 yb1
                    go_wp2
                    refine wp_over (z := wr) (by kernel_rfl) (by kernel_rfl) (Below.refl _ _) ?_
                    repeat (go_big_quiet_step (fail))
                    refine wpQuiet_nil ?_
                    intro w2 hw2
                    have HB2 : Hid (Below wvr15.heap.size wvr15 w2) := grow_on HBj.out (over_bel hw2)
                    clear hw2 qb0 mb0 xb0 yb0 qb1 mb1 xb1 yb1 hneb ea1 ea2
                    have eb1 : ((nthT X j).1 == v.1) = true := by rw [eb]; simp
                    have eb2 : ((nthT X j).2 == v.2) = true := by rw [eb]; simp
                    have qc0 := ot_at (i := j) (RX_wvr15.out.grow HB2.out) (by rw [HI.out.lX]; omega)
                    have mc0 := (RX_wvr15.out.grow HB2.out).lt
                    have xc0 := fun q : Grown w2 => q.cell (p := ⟨M2, j * 2, none⟩) mc0 qc0.1
                    have yc0 := fun q : Grown w2 => q.cell (p := ⟨M2, j * 2 + 1, none⟩) mc0 qc0.2
                    have qc1 := ot_at (i := i) (RS_wvr15.out.grow HB2.out) (by rw [HI.out.lS]; omega)
                    have mc1 := (RS_wvr15.out.grow HB2.out).lt
                    have xc1 := fun q : Grown w2 => q.cell (p := ⟨M3, i * 2, none⟩) mc1 qc1.1
                    have yc1 := fun q : Grown w2 => q.cell (p := ⟨M3, i * 2 + 1, none⟩) mc1 qc1.2
                    have hnec := Grown.some w2
                    rw [HV.out] at xc1 yc1
                    go_wp2
                    refine wp_over (z := w2) (by kernel_rfl) (by kernel_rfl) (Below.refl _ _) ?_
                    repeat (go_big_quiet_step (fail))
                    refine wpQuiet_nil ?_
                    intro w3 hw2
                    have HB3 : Hid (Below wvr15.heap.size wvr15 w3) := grow_on HB2.out (over_bel hw2)
                    clear hw2 qc0 mc0 xc0 yc0 qc1 mc1 xc1 yc1 hnec eb1 eb2
                    go_wp2
                    go_roundw
                    case rel => exact ⟨j + 1, by omega, by go_num, by (rw [HK.out]; try go_num), HB3.out⟩
                    case measure => simp [intOf]; omega
                ·
                  have HK : Hid (((cntT S (j + 1) v : Nat) : Int) - ((cntT X (j + 1) v : Nat) : Int) = (cs : Int) - (cx : Int) + 0 - 0) := by unfold Hid; rw [HS1.out, HX1.out, if_neg ea, if_neg eb]; omega
                  rcases ne_cases ea with ⟨ea1, ea2⟩ | ⟨ea1, ea2⟩ | ⟨ea1, ea2⟩
                  all_goals
                    have qb0 := ot_at (i := j) (RS_wvr15.out.grow HBj.out) (by rw [HI.out.lS]; omega)
                    have mb0 := (RS_wvr15.out.grow HBj.out).lt
                    have xb0 := fun q : Grown wr => q.cell (p := ⟨M3, j * 2, none⟩) mb0 qb0.1
                    have yb0 := fun q : Grown wr => q.cell (p := ⟨M3, j * 2 + 1, none⟩) mb0 qb0.2
                    have qb1 := ot_at (i := i) (RS_wvr15.out.grow HBj.out) (by rw [HI.out.lS]; omega)
                    have mb1 := (RS_wvr15.out.grow HBj.out).lt
                    have xb1 := fun q : Grown wr => q.cell (p := ⟨M3, i * 2, none⟩) mb1 qb1.1
                    have yb1 := fun q : Grown wr => q.cell (p := ⟨M3, i * 2 + 1, none⟩) mb1 qb1.2
                    have hneb := Grown.some wr
                    rw [HV.out] at xb1 yb1
                    go_wp2
                    refine wp_over (z := wr) (by kernel_rfl) (by kernel_rfl) (Below.refl _ _) ?_
                    repeat (go_big_quiet_step (fail))
                    refine wpQuiet_nil ?_
                    intro w2 hw2
                    have HB2 : Hid (Below wvr15.heap.size wvr15 w2) := grow_on HBj.out (over_bel hw2)
                    clear hw2 qb0 mb0 xb0 yb0 qb1 mb1 xb1 yb1 hneb ea1 ea2
                    rcases ne_cases eb with ⟨eb1, eb2⟩ | ⟨eb1, eb2⟩ | ⟨eb1, eb2⟩
                    all_goals
                      have qc0 := ot_at (i := j) (RX_wvr15.out.grow HB2.out) (by rw [HI.out.lX]; omega)
                      have mc0 := (RX_wvr15.out.grow HB2.out).lt
                      have xc0 := fun q : Grown w2 => q.cell (p := ⟨M2, j * 2, none⟩) mc0 qc0.1
                      have yc0 := fun q : Grown w2 => q.cell (p := ⟨M2, j * 2 + 1, none⟩) mc0 qc0.2
                      have qc1 := ot_at (i := i) (RS_wvr15.out.grow HB2.out) (by rw [HI.out.lS]; omega)
                      have mc1 := (RS_wvr15.out.grow HB2.out).lt
                      have xc1 := fun q : Grown w2 => q.cell (p := ⟨M3, i * 2, none⟩) mc1 qc1.1
                      have yc1 := fun q : Grown w2 => q.cell (p := ⟨M3, i * 2 + 1, none⟩) mc1 qc1.2
                      have hnec := Grown.some w2
                      rw [HV.out] at xc1 yc1
                      go_wp2
                      refine wp_over (z := w2) (by kernel_rfl) (by kernel_rfl) (Below.refl _ _) ?_
                      repeat (go_big_quiet_step (fail))
                      refine wpQuiet_nil ?_
                      intro w3 hw2
                      have HB3 : Hid (Below wvr15.heap.size wvr15 w3) := grow_on HB2.out (over_bel hw2)
                      clear hw2 qc0 mc0 xc0 yc0 qc1 mc1 xc1 yc1 hnec eb1 eb2
                      go_wp2
                      go_roundw
                      case rel => exact ⟨j + 1, by omega, by go_num, by (rw [HK.out]; try go_num), HB3.out⟩
                      case measure => simp [intOf]; omega
            ·
              have hge : ¬ (j : Int) < (n : Int) + 1 := by omega
              have hk0 : (cntT S j v : Int) - (cntT X j v : Int) = 0 := by
                have e : j = n + 1 := by omega
                rw [e, HI.out.cnt v]; omega
              go_wp2
              go_roundw
              case rel => exact ⟨i + 1, by omega, by go_num, by (rw [HNB.out]; try go_num), HBj.out⟩
              case measure => simp [intOf]; omega
        ·
          have HNB : Hid (((nB S (i + 1) x.2 : Nat) : Int) = ((nB S i x.2 : Nat) : Int) + 0) := by unfold Hid; rw [nB_up (by rw [HI.out.lS]; exact hlt), HV.out, if_neg eN]; omega
          have hnb := nB_le S i x.2
          have eN1 : (v.2 == x.2) = false := by simpa using eN
          clear eN
          have qd0 := ot_at (i := i) (RS_wvr15.out.grow HBc.out) (by rw [HI.out.lS]; omega)
          have md0 := (RS_wvr15.out.grow HBc.out).lt
          have xd0 := fun q : Grown wc => q.cell (p := ⟨M3, i * 2, none⟩) md0 qd0.1
          have yd0 := fun q : Grown wc => q.cell (p := ⟨M3, i * 2 + 1, none⟩) md0 qd0.2
          have hned := Grown.some wc
          rw [HV.out] at xd0 yd0
          have mT := (bT_wvr15.out.grow HBc.out).lt
          have xT := fun q : Grown wc => q.cell (p := ⟨w1.heap.size, 1, none⟩) mT ((bT_wvr15.out.grow HBc.out).cell 1)
          generalize nB S i x.2 = nb at *
          go_wp2
          refine wp_over (z := wc) (by kernel_rfl) (by kernel_rfl) (Below.refl _ _) ?_
          repeat (go_big_quiet_step (fail))
          refine wpQuiet_nil ?_
          intro w2 hw2
          have HB2 : Hid (Below wvr15.heap.size wvr15 w2) := grow_on HBc.out (over_bel hw2)
          clear hw2 qd0 md0 xd0 yd0 hned mT xT eN1
          go_wp2
          go_loopw [13, 14] (fun kk jj w' => ∃ j : Nat, j ≤ n + 1 ∧ jj = .int .i64 j ∧ kk = .int .i64 ((cntT S j v : Int) - (cntT X j v : Int)) ∧ Below wvr15.heap.size wvr15 w') (fun _ jj _ => n + 1 - (intOf jj).toNat)
          case atStart => exact ⟨0, by omega, rfl, rfl, HB2.out⟩
          case round =>
            obtain ⟨j, hj, rfl, rfl, hb⟩ := hrel
            have HBj : Hid (Below wvr15.heap.size wvr15 wr) := hb
            clear hb HB2
            have c1 := cnt_le S j v
            have c2 := cnt_le X j v
            by_cases hjl : j < n + 1
            ·
              have hjl' : (j : Int) < (n : Int) + 1 := by omega
              have HS1 : Hid (cntT S (j + 1) v = cntT S j v + (if nthT S j = v then 1 else 0)) := cnt_up (by rw [HI.out.lS]; exact hjl) v
              have HX1 : Hid (cntT X (j + 1) v = cntT X j v + (if nthT X j = v then 1 else 0)) := cnt_up (by rw [HI.out.lX]; exact hjl) v
              generalize cntT S j v = cs at *
              generalize cntT X j v = cx at *
              by_cases ea : nthT S j = v
              ·
                by_cases eb : nthT X j = v
                ·
                  have HK : Hid (((cntT S (j + 1) v : Nat) : Int) - ((cntT X (j + 1) v : Nat) : Int) = (cs : Int) - (cx : Int) + 1 - 1) := by unfold Hid; rw [HS1.out, HX1.out, if_pos ea, if_pos eb]; omega
                  have ea1 : ((nthT S j).1 == v.1) = true := by rw [ea]; simp
                  have ea2 : ((nthT S j).2 == v.2) = true := by rw [ea]; simp
                  have qb0 := ot_at (i := j) (RS_wvr15.out.grow HBj.out) (by rw [HI.out.lS]; omega)
                  have mb0 := (RS_wvr15.out.grow HBj.out).lt
                  have xb0 := fun q : Grown wr => q.cell (p := ⟨M3, j * 2, none⟩) mb0 qb0.1
                  have yb0 := fun q : Grown wr => q.cell (p := ⟨M3, j * 2 + 1, none⟩) mb0 qb0.2
                  have qb1 := ot_at (i := i) (RS_wvr15.out.grow HBj.out) (by rw [HI.out.lS]; omega)
                  have mb1 := (RS_wvr15.out.grow HBj.out).lt
                  have xb1 := fun q : Grown wr => q.cell (p := ⟨M3, i * 2, none⟩) mb1 qb1.1
                  have yb1 := fun q : Grown wr => q.cell (p := ⟨M3, i * 2 + 1, none⟩) mb1 qb1.2
                  have hneb := Grown.some wr
                  rw [HV.out] at xb1 yb1
                  go_wp2
                  refine wp_over (z := wr) (by kernel_rfl) (by kernel_rfl) (Below.refl _ _) ?_
                  repeat (go_big_quiet_step (fail))
                  refine wpQuiet_nil ?_
                  intro w2 hw2
                  have HB2 : Hid (Below wvr15.heap.size wvr15 w2) := grow_on HBj.out (over_bel hw2)
                  clear hw2 qb0 mb0 xb0 yb0 qb1 mb1 xb1 yb1 hneb ea1 ea2
                  have eb1 : ((nthT X j).1 == v.1) = true := by rw [eb]; simp
                  have eb2 : ((nthT X j).2 == v.2) = true := by rw [eb]; simp
                  have qc0 := ot_at (i := j) (RX_wvr15.out.grow HB2.out) (by rw [HI.out.lX]; omega)
                  have mc0 := (RX_wvr15.out.grow HB2.out).lt
                  have xc0 := fun q : Grown w2 => q.cell (p := ⟨M2, j * 2, none⟩) mc0 qc0.1
                  have yc0 := fun q : Grown w2 => q.cell (p := ⟨M2, j * 2 + 1, none⟩) mc0 qc0.2
                  have qc1 := ot_at (i := i) (RS_wvr15.out.grow HB2.out) (by rw [HI.out.lS]; omega)
                  have mc1 := (RS_wvr15.out.grow HB2.out).lt
                  have xc1 := fun q : Grown w2 => q.cell (p := ⟨M3, i * 2, none⟩) mc1 qc1.1
                  have yc1 := fun q : Grown w2 => q.cell (p := ⟨M3, i * 2 + 1, none⟩) mc1 qc1.2
                  have hnec := Grown.some w2
                  rw [HV.out] at xc1 yc1
                  go_wp2
                  refine wp_over (z := w2) (by kernel_rfl) (by kernel_rfl) (Below.refl _ _) ?_
                  repeat (go_big_quiet_step (fail))
                  refine wpQuiet_nil ?_
                  intro w3 hw2
                  have HB3 : Hid (Below wvr15.heap.size wvr15 w3) := grow_on HB2.out (over_bel hw2)
                  clear hw2 qc0 mc0 xc0 yc0 qc1 mc1 xc1 yc1 hnec eb1 eb2
                  go_wp2
                  go_roundw
                  case rel => exact ⟨j + 1, by omega, by go_num, by (rw [HK.out]; try go_num), HB3.out⟩
                  case measure => simp [intOf]; omega
                ·
                  have HK : Hid (((cntT S (j + 1) v : Nat) : Int) - ((cntT X (j + 1) v : Nat) : Int) = (cs : Int) - (cx : Int) + 1 - 0) := by unfold Hid; rw [HS1.out, HX1.out, if_pos ea, if_neg eb]; omega
                  have ea1 : ((nthT S j).1 == v.1) = true := by rw [ea]; simp
                  have ea2 : ((nthT S j).2 == v.2) = true := by rw [ea]; simp
                  have qb0 := ot_at (i := j) (RS_wvr15.out.grow HBj.out) (by rw [HI.out.lS]; omega)
                  have mb0 := (RS_wvr15.out.grow HBj.out).lt
                  have xb0 := fun q : Grown wr => q.cell (p := ⟨M3, j * 2, none⟩) mb0 qb0.1
                  have yb0 := fun q : Grown wr => q.cell (p := ⟨M3, j * 2 + 1, none⟩) mb0 qb0.2
                  have qb1 := ot_at (i := i) (RS_wvr15.out.grow HBj.out) (by rw [HI.out.lS]; omega)
                  have mb1 := (RS_wvr15.out.grow HBj.out).lt
                  have xb1 := fun q : Grown wr => q.cell (p := ⟨M3, i * 2, none⟩) mb1 qb1.1
                  have yb1 := fun q : Grown wr => q.cell (p := ⟨M3, i * 2 + 1, none⟩) mb1 qb1.2
                  have hneb := Grown.some wr
                  rw [HV.out] at xb1 yb1
                  go_wp2
                  refine wp_over (z := wr) (by kernel_rfl) (by kernel_rfl) (Below.refl _ _) ?_
                  repeat (go_big_quiet_step (fail))
                  refine wpQuiet_nil ?_
                  intro w2 hw2
                  have HB2 : Hid (Below wvr15.heap.size wvr15 w2) := grow_on HBj.out (over_bel hw2)
                  clear hw2 qb0 mb0 xb0 yb0 qb1 mb1 xb1 yb1 hneb ea1 ea2
                  rcases ne_cases eb with ⟨eb1, eb2⟩ | ⟨eb1, eb2⟩ | ⟨eb1, eb2⟩
                  all_goals
                    have qc0 := ot_at (i := j) (RX_wvr15.out.grow HB2.out) (by rw [HI.out.lX]; omega)
                    have mc0 := (RX_wvr15.out.grow HB2.out).lt
                    have xc0 := fun q : Grown w2 => q.cell (p := ⟨M2, j * 2, none⟩) mc0 qc0.1
                    have yc0 := fun q : Grown w2 => q.cell (p := ⟨M2, j * 2 + 1, none⟩) mc0 qc0.2
                    have qc1 := ot_at (i := i) (RS_wvr15.out.grow HB2.out) (by rw [HI.out.lS]; omega)
                    have mc1 := (RS_wvr15.out.grow HB2.out).lt
                    have xc1 := fun q : Grown w2 => q.cell (p := ⟨M3, i * 2, none⟩) mc1 qc1.1
                    have yc1 := fun q : Grown w2 => q.cell (p := ⟨M3, i * 2 + 1, none⟩) mc1 qc1.2
                    have hnec := Grown.some w2
                    rw [HV.out] at xc1 yc1
                    go_wp2
                    refine wp_over (z := w2) (by kernel_rfl) (by kernel_rfl) (Below.refl _ _) ?_
                    repeat (go_big_quiet_step (fail))
                    refine wpQuiet_nil ?_
                    intro w3 hw2
                    have HB3 : Hid (Below wvr15.heap.size wvr15 w3) := grow_on HB2.out (over_bel hw2)
                    clear hw2 qc0 mc0 xc0 yc0 qc1 mc1 xc1 yc1 hnec eb1 eb2
                    go_wp2
                    go_roundw
                    case rel => exact ⟨j + 1, by omega, by go_num, by (rw [HK.out]; try go_num), HB3.out⟩
                    case measure => simp [intOf]; omega
              ·
                by_cases eb : nthT X j = v
                ·
                  have HK : Hid (((cntT S (j + 1) v : Nat) : Int) - ((cntT X (j + 1) v : Nat) : Int) = (cs : Int) - (cx : Int) + 0 - 1) := by unfold Hid; rw [HS1.out, HX1.out, if_neg ea, if_pos eb]; omega
                  rcases ne_cases ea with ⟨ea1, ea2⟩ | ⟨ea1, ea2⟩ | ⟨ea1, ea2⟩
                  all_goals
                    have qb0 := ot_at (i := j) (RS_wvr15.out.grow HBj.out) (by rw [HI.out.lS]; omega)
                    have mb0 := (RS_wvr15.out.grow HBj.out).lt
                    have xb0 := fun q : Grown wr => q.cell (p := ⟨M3, j * 2, none⟩) mb0 qb0.1
                    have yb0 := fun q : Grown wr => q.cell (p := ⟨M3, j * 2 + 1, none⟩) mb0 qb0.2
                    have qb1 := ot_at (i := i) (RS_wvr15.out.grow HBj.out) (by rw [HI.out.lS]; omega)
                    have mb1 := (RS_wvr15.out.grow HBj.out).lt
                    have xb1 := fun q : Grown wr => q.cell (p := ⟨M3, i * 2, none⟩) mb1 qb1.1
                    have yb1 := fun q : Grown wr => q.cell (p := ⟨M3, i * 2 + 1, none⟩) mb1 qb1.2
                    have hneb := Grown.some wr
                    rw [HV.out] at xb1 yb1
                    go_wp2
                    refine wp_over (z := wr) (by kernel_rfl) (by kernel_rfl) (Below.refl _ _) ?_
                    repeat (go_big_quiet_step (fail))
                    refine wpQuiet_nil ?_
                    intro w2 hw2
                    have HB2 : Hid (Below wvr15.heap.size wvr15 w2) := grow_on HBj.out (over_bel hw2)
                    clear hw2 qb0 mb0 xb0 yb0 qb1 mb1 xb1 yb1 hneb ea1 ea2
                    have eb1 : ((nthT X j).1 == v.1) = true := by rw [eb]; simp
                    have eb2 : ((nthT X j).2 == v.2) = true := by rw [eb]; simp
                    have qc0 := ot_at (i := j) (RX_wvr15.out.grow HB2.out) (by rw [HI.out.lX]; omega)
                    have mc0 := (RX_wvr15.out.grow HB2.out).lt
                    have xc0 := fun q : Grown w2 => q.cell (p := ⟨M2, j * 2, none⟩) mc0 qc0.1
                    have yc0 := fun q : Grown w2 => q.cell (p := ⟨M2, j * 2 + 1, none⟩) mc0 qc0.2
                    have qc1 := ot_at (i := i) (RS_wvr15.out.grow HB2.out) (by rw [HI.out.lS]; omega)
                    have mc1 := (RS_wvr15.out.grow HB2.out).lt
                    have xc1 := fun q : Grown w2 => q.cell (p := ⟨M3, i * 2, none⟩) mc1 qc1.1
                    have yc1 := fun q : Grown w2 => q.cell (p := ⟨M3, i * 2 + 1, none⟩) mc1 qc1.2
                    have hnec := Grown.some w2
                    rw [HV.out] at xc1 yc1
                    go_wp2
                    refine wp_over (z := w2) (by kernel_rfl) (by kernel_rfl) (Below.refl _ _) ?_
                    repeat (go_big_quiet_step (fail))
                    refine wpQuiet_nil ?_
                    intro w3 hw2
                    have HB3 : Hid (Below wvr15.heap.size wvr15 w3) := grow_on HB2.out (over_bel hw2)
                    clear hw2 qc0 mc0 xc0 yc0 qc1 mc1 xc1 yc1 hnec eb1 eb2
                    go_wp2
                    go_roundw
                    case rel => exact ⟨j + 1, by omega, by go_num, by (rw [HK.out]; try go_num), HB3.out⟩
                    case measure => simp [intOf]; omega
                ·
                  have HK : Hid (((cntT S (j + 1) v : Nat) : Int) - ((cntT X (j + 1) v : Nat) : Int) = (cs : Int) - (cx : Int) + 0 - 0) := by unfold Hid; rw [HS1.out, HX1.out, if_neg ea, if_neg eb]; omega
                  rcases ne_cases ea with ⟨ea1, ea2⟩ | ⟨ea1, ea2⟩ | ⟨ea1, ea2⟩
                  all_goals
                    have qb0 := ot_at (i := j) (RS_wvr15.out.grow HBj.out) (by rw [HI.out.lS]; omega)
                    have mb0 := (RS_wvr15.out.grow HBj.out).lt
                    have xb0 := fun q : Grown wr => q.cell (p := ⟨M3, j * 2, none⟩) mb0 qb0.1
                    have yb0 := fun q : Grown wr => q.cell (p := ⟨M3, j * 2 + 1, none⟩) mb0 qb0.2
                    have qb1 := ot_at (i := i) (RS_wvr15.out.grow HBj.out) (by rw [HI.out.lS]; omega)
                    have mb1 := (RS_wvr15.out.grow HBj.out).lt
                    have xb1 := fun q : Grown wr => q.cell (p := ⟨M3, i * 2, none⟩) mb1 qb1.1
                    have yb1 := fun q : Grown wr => q.cell (p := ⟨M3, i * 2 + 1, none⟩) mb1 qb1.2
                    have hneb := Grown.some wr
                    rw [HV.out] at xb1 yb1
                    go_wp2
                    refine wp_over (z := wr) (by kernel_rfl) (by kernel_rfl) (Below.refl _ _) ?_
                    repeat (go_big_quiet_step (fail))
                    refine wpQuiet_nil ?_
                    intro w2 hw2
                    have HB2 : Hid (Below wvr15.heap.size wvr15 w2) := grow_on HBj.out (over_bel hw2)
                    clear hw2 qb0 mb0 xb0 yb0 qb1 mb1 xb1 yb1 hneb ea1 ea2
                    rcases ne_cases eb with ⟨eb1, eb2⟩ | ⟨eb1, eb2⟩ | ⟨eb1, eb2⟩
                    all_goals
                      have qc0 := ot_at (i := j) (RX_wvr15.out.grow HB2.out) (by rw [HI.out.lX]; omega)
                      have mc0 := (RX_wvr15.out.grow HB2.out).lt
                      have xc0 := fun q : Grown w2 => q.cell (p := ⟨M2, j * 2, none⟩) mc0 qc0.1
                      have yc0 := fun q : Grown w2 => q.cell (p := ⟨M2, j * 2 + 1, none⟩) mc0 qc0.2
                      have qc1 := ot_at (i := i) (RS_wvr15.out.grow HB2.out) (by rw [HI.out.lS]; omega)
                      have mc1 := (RS_wvr15.out.grow HB2.out).lt
                      have xc1 := fun q : Grown w2 => q.cell (p := ⟨M3, i * 2, none⟩) mc1 qc1.1
                      have yc1 := fun q : Grown w2 => q.cell (p := ⟨M3, i * 2 + 1, none⟩) mc1 qc1.2
                      have hnec := Grown.some w2
                      rw [HV.out] at xc1 yc1
                      go_wp2
                      refine wp_over (z := w2) (by kernel_rfl) (by kernel_rfl) (Below.refl _ _) ?_
                      repeat (go_big_quiet_step (fail))
                      refine wpQuiet_nil ?_
                      intro w3 hw2
                      have HB3 : Hid (Below wvr15.heap.size wvr15 w3) := grow_on HB2.out (over_bel hw2)
                      clear hw2 qc0 mc0 xc0 yc0 qc1 mc1 xc1 yc1 hnec eb1 eb2
                      go_wp2
                      go_roundw
                      case rel => exact ⟨j + 1, by omega, by go_num, by (rw [HK.out]; try go_num), HB3.out⟩
                      case measure => simp [intOf]; omega
            ·
              have hge : ¬ (j : Int) < (n : Int) + 1 := by omega
              have hk0 : (cntT S j v : Int) - (cntT X j v : Int) = 0 := by
                have e : j = n + 1 := by omega
                rw [e, HI.out.cnt v]; omega
              go_wp2
              go_roundw
              case rel => exact ⟨i + 1, by omega, by go_num, by (rw [HNB.out]; try go_num), HBj.out⟩
              case measure => simp [intOf]; omega
    ·
      have ei : i = n + 1 := by omega
      have HD : Hid (dn + nB S i x.2 = n + 1) := by rw [ei]; exact HI.out.dnB
      have hge : ¬ (i : Int) < (n : Int) + 1 := by omega
      clear ei hlt
      generalize nB S i x.2 = nb at *
      have hwr : IntKind.i64.wrap ((n : Int) + 1 - (nb : Int)) = (dn : Int) := by have := HD.out; rw [IntKind.wrap_i64]; omega
      have ls : (sortT Y).length = n := by rw [sort_length]; exact HI.out.lY
      have B_wr : Hid (Below w.heap.size w wr) := grow_on B_wvr15.out HBr.out
      have RS_wr : Hid (OT w2.heap.size wr M3 k3 S) := RS_wvr15.out.grow HBr.out
      have RY_wr : Hid (OT w3.heap.size wr M4 k4 Y) := RY_wvr15.out.grow HBr.out
      have hb1 : (1 : Int) ≤ (n : Int) + 1 := by omega
      have hk1 : 1 ≤ k3 := by have := RS_wr.out.le; rw [HI.out.lS] at this; omega
      have C9 : Hid (∀ (u0 : World), Below wr.heap.size wr u0 → Calls Try.prog 12 #[.slice (some ⟨M4, 0, none⟩) n k4] u0 fun e w' => (∃ M c, e = .returned (.slice (some ⟨M, 0, none⟩) n c) ∧ OT u0.heap.size w' M c (sortT Y)) ∧ Below u0.heap.size u0 w') := fun u0 hu => by
        have h := implSorted_any M4 0 k4 Y u0 (RY_wr.out.grow hu).rd (by rw [HI.out.lY]; omega)
        rw [HI.out.lY, ls] at h
        exact h
      have C12 : Hid (∀ (u0 : World) (M c c' : Nat) (a' : Option Addr), Below wr.heap.size wr u0 → RdT u0 (some ⟨M, 0, none⟩) (sortT Y) → RdT u0 a' (sortT Y) → Calls Try.prog 17 #[.slice (some ⟨M, 0, none⟩) n c, .slice a' n c'] u0 fun e w' => e = .returned (.bool true) ∧ Below u0.heap.size u0 w') := fun u0 M c c' a' hu h1 h2 => by
        have h := sameH_any (some ⟨M, 0, none⟩) a' c c' (sortT Y) u0 h1 h2 (by rw [ls]; omega)
        rw [ls] at h
        exact h
      have HT : Hid (∀ u0, Below wr.heap.size wr u0 → RdT u0 (some ⟨M3, 2, none⟩) (sortT Y)) := fun u0 hu => by
        obtain ⟨v, hv⟩ := HI.out.tail
        have h := (RS_wr.out.grow hu).rd
        rw [hv] at h
        exact rd_tail h
      have HN0 : Hid (k3 = 1 → sortT Y = []) := fun e => List.eq_nil_of_length_eq_zero (by have := RS_wr.out.le; rw [HI.out.lS] at this; omega)
      clear ls
      by_cases hk3 : k3 = 1
      ·
        have e0 := HN0.out hk3
        have HE0 : Hid (sortT Y = []) := e0
        have hkn : n = 0 := by have := RS_wr.out.le; rw [HI.out.lS] at this; omega
        have HKN : Hid (n = 0) := hkn
        clear e0 hkn
        have HS : Hid (∀ w', Below wr.heap.size wr w' → Below wr.heap.size wr w' ∧ True) := fun w' h => ⟨h, trivial⟩
        go_upto_region 28 with fail
        refine wp_region_held_drew (S := fun w' => Below wr.heap.size wr w' ∧ True) (by kernel_rfl) (HS.out _ (Below.refl _ _).drew) (fun hHeld => ?_)
        refine wpAnyH_take (i := 0) (oi := { dst := some 141, op := Op.move (Operand.tmp 10), type := 24, pos := "laws.go:489", after := #[], guard := none }) (v := ?vg0) rfl (by kernel_rfl) (by kernel_rfl) (by kernel_rfl) (fun _ _ _ h => h) (Or.inl ⟨by rfl, ?hyg0⟩) hHeld ?_
        case hyg0 => (intro w hSw; (try dsimp only at hSw); go_simp <;> with_reducible rfl)
        try simp only [Act.put, List.setIfInBounds_toArray, List.set_cons_zero, List.set_cons_succ]
        refine wpAnyH_take (i := 1) (oi := { dst := some 142, op := Op.call { callee := Callee.builtin Builtin.len, args := #[Operand.tmp 141], argTypes := #[24] }, type := 3, pos := "laws.go:489", after := #[{ on := 0, ground := Ground.data }], guard := none }) (v := ?vg1) rfl (by kernel_rfl) (by kernel_rfl) (by kernel_rfl) (fun _ _ _ h => h) (Or.inl ⟨by rfl, ?hyg1⟩) hHeld ?_
        case hyg1 => (intro w hSw; (try dsimp only at hSw); go_simp <;> with_reducible rfl)
        try simp only [Act.put, List.setIfInBounds_toArray, List.set_cons_zero, List.set_cons_succ]
        refine wpAnyH_take (i := 2) (oi := { dst := some 143, op := Op.move (Operand.tmp 5), type := 24, pos := "laws.go:489", after := #[], guard := none }) (v := ?vg2) rfl (by kernel_rfl) (by kernel_rfl) (by kernel_rfl) (fun _ _ _ h => h) (Or.inl ⟨by rfl, ?hyg2⟩) hHeld ?_
        case hyg2 => (intro w hSw; (try dsimp only at hSw); go_simp <;> with_reducible rfl)
        try simp only [Act.put, List.setIfInBounds_toArray, List.set_cons_zero, List.set_cons_succ]
        refine wpAnyH_take (i := 3) (oi := { dst := some 144, op := Op.call { callee := Callee.builtin Builtin.len, args := #[Operand.tmp 143], argTypes := #[24] }, type := 3, pos := "laws.go:489", after := #[{ on := 2, ground := Ground.data }], guard := none }) (v := ?vg3) rfl (by kernel_rfl) (by kernel_rfl) (by kernel_rfl) (fun _ _ _ h => h) (Or.inl ⟨by rfl, ?hyg3⟩) hHeld ?_
        case hyg3 => (intro w hSw; (try dsimp only at hSw); go_simp <;> with_reducible rfl)
        try simp only [Act.put, List.setIfInBounds_toArray, List.set_cons_zero, List.set_cons_succ]
        refine wpAnyH_take (i := 4) (oi := { dst := some 145, op := Op.move (Operand.tmp 11), type := 3, pos := "laws.go:489", after := #[], guard := none }) (v := ?vg4) rfl (by kernel_rfl) (by kernel_rfl) (by kernel_rfl) (fun _ _ _ h => h) (Or.inl ⟨by rfl, ?hyg4⟩) hHeld ?_
        case hyg4 => (intro w hSw; (try dsimp only at hSw); go_simp <;> with_reducible rfl)
        try simp only [Act.put, List.setIfInBounds_toArray, List.set_cons_zero, List.set_cons_succ]
        refine wpAnyH_take (i := 5) (oi := { dst := some 146, op := Op.binOp BinOp.sub 3 (Operand.tmp 144) (Operand.tmp 145) 3, type := 3, pos := "laws.go:489", after := #[{ on := 3, ground := Ground.data }, { on := 4, ground := Ground.data }], guard := none }) (v := ?vg5) rfl (by kernel_rfl) (by kernel_rfl) (by kernel_rfl) (fun _ _ _ h => h) (Or.inl ⟨by rfl, ?hyg5⟩) hHeld ?_
        case hyg5 => (intro w hSw; (try dsimp only at hSw); go_simp <;> with_reducible rfl)
        try simp only [Act.put, List.setIfInBounds_toArray, List.set_cons_zero, List.set_cons_succ]
        refine wpAnyH_take (i := 6) (oi := { dst := some 147, op := Op.binOp BinOp.eql 3 (Operand.tmp 142) (Operand.tmp 146) 3, type := 4, pos := "laws.go:489", after := #[{ on := 1, ground := Ground.data }, { on := 5, ground := Ground.data }], guard := none }) (v := ?vg6) rfl (by kernel_rfl) (by kernel_rfl) (by kernel_rfl) (fun _ _ _ h => h) (Or.inl ⟨by rfl, ?hyg6⟩) hHeld ?_
        case hyg6 => (intro w hSw; (try dsimp only at hSw); go_simp <;> with_reducible rfl)
        try simp only [Act.put, List.setIfInBounds_toArray, List.set_cons_zero, List.set_cons_succ]
        refine wpAnyH_take (i := 7) (oi := { dst := some 148, op := Op.move (Operand.tmp 147), type := 4, pos := "laws.go:489", after := #[{ on := 6, ground := Ground.data }], guard := none }) (v := ?vg7) rfl (by kernel_rfl) (by kernel_rfl) (by kernel_rfl) (fun _ _ _ h => h) (Or.inl ⟨by rfl, ?hyg7⟩) hHeld ?_
        case hyg7 => (intro w hSw; (try dsimp only at hSw); go_simp <;> with_reducible rfl)
        try simp only [Act.put, List.setIfInBounds_toArray, List.set_cons_zero, List.set_cons_succ]
        refine wpAnyH_take (i := 8) (oi := { dst := some 149, op := Op.move (Operand.tmp 7), type := 24, pos := "laws.go:489", after := #[{ on := 7, ground := Ground.guard }], guard := some (7, true) }) (v := ?vg8) rfl (by kernel_rfl) (by kernel_rfl) (by kernel_rfl) (fun _ _ _ h => h) (Or.inl ⟨by rfl, ?hyg8⟩) hHeld ?_
        case hyg8 => (intro w hSw; (try dsimp only at hSw); go_simp <;> with_reducible rfl)
        try simp only [Act.put, List.setIfInBounds_toArray, List.set_cons_zero, List.set_cons_succ]
        refine wpAnyH_take (i := 10) (oi := { dst := some 151, op := Op.move (Operand.tmp 6), type := 24, pos := "laws.go:489", after := #[{ on := 7, ground := Ground.guard }], guard := some (7, true) }) (v := ?vg10) rfl (by kernel_rfl) (by kernel_rfl) (by kernel_rfl) (fun _ _ _ h => h) (Or.inl ⟨by rfl, ?hyg10⟩) hHeld ?_
        case hyg10 => (intro w hSw; (try dsimp only at hSw); go_simp <;> with_reducible rfl)
        try simp only [Act.put, List.setIfInBounds_toArray, List.set_cons_zero, List.set_cons_succ]
        refine wpAnyH_take (i := 11) (oi := { dst := some 152, op := Op.slice 24 (Operand.tmp 151) (some (Operand.const (Value.int IntKind.i64 1))) none none, type := 24, pos := "laws.go:489", after := #[{ on := 10, ground := Ground.data }, { on := 7, ground := Ground.guard }], guard := some (7, true) }) (v := ?vg11) rfl (by kernel_rfl) (by kernel_rfl) (by kernel_rfl) (fun _ _ _ h => h) (Or.inl ⟨by rfl, ?hyg11⟩) hHeld ?_
        case hyg11 => (intro w hSw; (try dsimp only at hSw); go_simp <;> with_reducible rfl)
        try simp only [Act.put, List.setIfInBounds_toArray, List.set_cons_zero, List.set_cons_succ]
        refine wpAnyH_ready (rs := [9]) (by kernel_rfl) (by simp) ?_
        refine AllReadyH.cons (o := { dst := some 150, op := Op.call { callee := Callee.value (Operand.func 12), args := #[Operand.tmp 149], argTypes := #[24] }, type := 24, pos := "laws.go:489", after := #[{ on := 8, ground := Ground.data }, { on := 7, ground := Ground.chain }, { on := 7, ground := Ground.guard }], guard := some (7, true) }) rfl (fun K hK => ?_) AllReadyH.nil
        go_simp
        refine (C9.out _ hHeld.1).mono ?_
        rintro r wvg9 ⟨⟨M9, c9, rfl, hr9⟩, hy⟩
        have HK9 := hr9.rd
        clear hr9
        have hz : Below wr.heap.size wr wvg9 := grow_on hHeld.1 hy
        clear hHeld hy
        refine hK.out _ _ (HS.out _ hz) (fun hHeld => ?_)
        clear hK K hz
        try simp only [Act.put, List.setIfInBounds_toArray, List.set_cons_zero, List.set_cons_succ]
        refine wpAnyH_ready (rs := [12]) (by kernel_rfl) (by simp) ?_
        refine AllReadyH.cons (o := { dst := some 153, op := Op.call { callee := Callee.value (Operand.func 17), args := #[Operand.tmp 150, Operand.tmp 152], argTypes := #[24, 24] }, type := 4, pos := "laws.go:489", after := #[{ on := 9, ground := Ground.data }, { on := 11, ground := Ground.data }, { on := 9, ground := Ground.chain }, { on := 7, ground := Ground.guard }], guard := some (7, true) }) rfl (fun K hK => ?_) AllReadyH.nil
        go_simp
        refine (C12.out _ _ _ _ _ hHeld.1 HK9 (.inl HE0.out)).mono ?_
        rintro r wvg12 ⟨rfl, hy⟩
        have hz : Below wr.heap.size wr wvg12 := grow_on hHeld.1 hy
        clear hHeld hy
        refine hK.out _ _ (HS.out _ hz) (fun hHeld => ?_)
        clear hK K hz
        try simp only [Act.put, List.setIfInBounds_toArray, List.set_cons_zero, List.set_cons_succ]
        refine wpAnyH_take (i := 13) (oi := { dst := some 154, op := Op.pick (Operand.tmp 148) (Operand.tmp 153) (Operand.const (Value.bool false)), type := 4, pos := "laws.go:489", after := #[{ on := 7, ground := Ground.data }, { on := 12, ground := Ground.data }], guard := none }) (v := ?vg13) rfl (by kernel_rfl) (by kernel_rfl) (by kernel_rfl) (fun _ _ _ h => h) (Or.inl ⟨by rfl, ?hyg13⟩) hHeld ?_
        case hyg13 => (intro w hSw; (try dsimp only at hSw); go_simp <;> with_reducible rfl)
        try simp only [Act.put, List.setIfInBounds_toArray, List.set_cons_zero, List.set_cons_succ]
        refine wpAnyH_take (i := 14) (oi := { dst := some 2, op := Op.assign (Operand.tmp 154), type := 4, pos := "laws.go:489", after := #[{ on := 13, ground := Ground.data }, { on := 12, ground := Ground.chain }, { on := 0, ground := Ground.phase }, { on := 1, ground := Ground.phase }, { on := 2, ground := Ground.phase }, { on := 3, ground := Ground.phase }, { on := 4, ground := Ground.phase }, { on := 5, ground := Ground.phase }, { on := 6, ground := Ground.phase }, { on := 7, ground := Ground.phase }, { on := 8, ground := Ground.phase }, { on := 9, ground := Ground.phase }, { on := 10, ground := Ground.phase }, { on := 11, ground := Ground.phase }, { on := 12, ground := Ground.phase }, { on := 13, ground := Ground.phase }], guard := none }) (v := ?vg14) rfl (by kernel_rfl) (by kernel_rfl) (by kernel_rfl) (fun _ _ _ h => h) (Or.inl ⟨by rfl, ?hyg14⟩) hHeld ?_
        case hyg14 => (intro w hSw; (try dsimp only at hSw); go_simp <;> with_reducible rfl)
        try simp only [Act.put, List.setIfInBounds_toArray, List.set_cons_zero, List.set_cons_succ]
        refine wpAnyH_done (by kernel_rfl) ?_ _
        have HBZ : Hid (Below w.heap.size w wvg12) := grow_on B_wr.out hHeld.1
        clear hHeld HS
        go_wp2
        go_ret
        exact ⟨rfl, HBZ.out⟩
      ·
        have HS : Hid (∀ w', Below wr.heap.size wr w' → Below wr.heap.size wr w' ∧ True) := fun w' h => ⟨h, trivial⟩
        go_upto_region 28 with fail
        refine wp_region_held_drew (S := fun w' => Below wr.heap.size wr w' ∧ True) (by kernel_rfl) (HS.out _ (Below.refl _ _).drew) (fun hHeld => ?_)
        refine wpAnyH_take (i := 0) (oi := { dst := some 141, op := Op.move (Operand.tmp 10), type := 24, pos := "laws.go:489", after := #[], guard := none }) (v := ?vh0) rfl (by kernel_rfl) (by kernel_rfl) (by kernel_rfl) (fun _ _ _ h => h) (Or.inl ⟨by rfl, ?hyh0⟩) hHeld ?_
        case hyh0 => (intro w hSw; (try dsimp only at hSw); go_simp <;> with_reducible rfl)
        try simp only [Act.put, List.setIfInBounds_toArray, List.set_cons_zero, List.set_cons_succ]
        refine wpAnyH_take (i := 1) (oi := { dst := some 142, op := Op.call { callee := Callee.builtin Builtin.len, args := #[Operand.tmp 141], argTypes := #[24] }, type := 3, pos := "laws.go:489", after := #[{ on := 0, ground := Ground.data }], guard := none }) (v := ?vh1) rfl (by kernel_rfl) (by kernel_rfl) (by kernel_rfl) (fun _ _ _ h => h) (Or.inl ⟨by rfl, ?hyh1⟩) hHeld ?_
        case hyh1 => (intro w hSw; (try dsimp only at hSw); go_simp <;> with_reducible rfl)
        try simp only [Act.put, List.setIfInBounds_toArray, List.set_cons_zero, List.set_cons_succ]
        refine wpAnyH_take (i := 2) (oi := { dst := some 143, op := Op.move (Operand.tmp 5), type := 24, pos := "laws.go:489", after := #[], guard := none }) (v := ?vh2) rfl (by kernel_rfl) (by kernel_rfl) (by kernel_rfl) (fun _ _ _ h => h) (Or.inl ⟨by rfl, ?hyh2⟩) hHeld ?_
        case hyh2 => (intro w hSw; (try dsimp only at hSw); go_simp <;> with_reducible rfl)
        try simp only [Act.put, List.setIfInBounds_toArray, List.set_cons_zero, List.set_cons_succ]
        refine wpAnyH_take (i := 3) (oi := { dst := some 144, op := Op.call { callee := Callee.builtin Builtin.len, args := #[Operand.tmp 143], argTypes := #[24] }, type := 3, pos := "laws.go:489", after := #[{ on := 2, ground := Ground.data }], guard := none }) (v := ?vh3) rfl (by kernel_rfl) (by kernel_rfl) (by kernel_rfl) (fun _ _ _ h => h) (Or.inl ⟨by rfl, ?hyh3⟩) hHeld ?_
        case hyh3 => (intro w hSw; (try dsimp only at hSw); go_simp <;> with_reducible rfl)
        try simp only [Act.put, List.setIfInBounds_toArray, List.set_cons_zero, List.set_cons_succ]
        refine wpAnyH_take (i := 4) (oi := { dst := some 145, op := Op.move (Operand.tmp 11), type := 3, pos := "laws.go:489", after := #[], guard := none }) (v := ?vh4) rfl (by kernel_rfl) (by kernel_rfl) (by kernel_rfl) (fun _ _ _ h => h) (Or.inl ⟨by rfl, ?hyh4⟩) hHeld ?_
        case hyh4 => (intro w hSw; (try dsimp only at hSw); go_simp <;> with_reducible rfl)
        try simp only [Act.put, List.setIfInBounds_toArray, List.set_cons_zero, List.set_cons_succ]
        refine wpAnyH_take (i := 5) (oi := { dst := some 146, op := Op.binOp BinOp.sub 3 (Operand.tmp 144) (Operand.tmp 145) 3, type := 3, pos := "laws.go:489", after := #[{ on := 3, ground := Ground.data }, { on := 4, ground := Ground.data }], guard := none }) (v := ?vh5) rfl (by kernel_rfl) (by kernel_rfl) (by kernel_rfl) (fun _ _ _ h => h) (Or.inl ⟨by rfl, ?hyh5⟩) hHeld ?_
        case hyh5 => (intro w hSw; (try dsimp only at hSw); go_simp <;> with_reducible rfl)
        try simp only [Act.put, List.setIfInBounds_toArray, List.set_cons_zero, List.set_cons_succ]
        refine wpAnyH_take (i := 6) (oi := { dst := some 147, op := Op.binOp BinOp.eql 3 (Operand.tmp 142) (Operand.tmp 146) 3, type := 4, pos := "laws.go:489", after := #[{ on := 1, ground := Ground.data }, { on := 5, ground := Ground.data }], guard := none }) (v := ?vh6) rfl (by kernel_rfl) (by kernel_rfl) (by kernel_rfl) (fun _ _ _ h => h) (Or.inl ⟨by rfl, ?hyh6⟩) hHeld ?_
        case hyh6 => (intro w hSw; (try dsimp only at hSw); go_simp <;> with_reducible rfl)
        try simp only [Act.put, List.setIfInBounds_toArray, List.set_cons_zero, List.set_cons_succ]
        refine wpAnyH_take (i := 7) (oi := { dst := some 148, op := Op.move (Operand.tmp 147), type := 4, pos := "laws.go:489", after := #[{ on := 6, ground := Ground.data }], guard := none }) (v := ?vh7) rfl (by kernel_rfl) (by kernel_rfl) (by kernel_rfl) (fun _ _ _ h => h) (Or.inl ⟨by rfl, ?hyh7⟩) hHeld ?_
        case hyh7 => (intro w hSw; (try dsimp only at hSw); go_simp <;> with_reducible rfl)
        try simp only [Act.put, List.setIfInBounds_toArray, List.set_cons_zero, List.set_cons_succ]
        refine wpAnyH_take (i := 8) (oi := { dst := some 149, op := Op.move (Operand.tmp 7), type := 24, pos := "laws.go:489", after := #[{ on := 7, ground := Ground.guard }], guard := some (7, true) }) (v := ?vh8) rfl (by kernel_rfl) (by kernel_rfl) (by kernel_rfl) (fun _ _ _ h => h) (Or.inl ⟨by rfl, ?hyh8⟩) hHeld ?_
        case hyh8 => (intro w hSw; (try dsimp only at hSw); go_simp <;> with_reducible rfl)
        try simp only [Act.put, List.setIfInBounds_toArray, List.set_cons_zero, List.set_cons_succ]
        refine wpAnyH_take (i := 10) (oi := { dst := some 151, op := Op.move (Operand.tmp 6), type := 24, pos := "laws.go:489", after := #[{ on := 7, ground := Ground.guard }], guard := some (7, true) }) (v := ?vh10) rfl (by kernel_rfl) (by kernel_rfl) (by kernel_rfl) (fun _ _ _ h => h) (Or.inl ⟨by rfl, ?hyh10⟩) hHeld ?_
        case hyh10 => (intro w hSw; (try dsimp only at hSw); go_simp <;> with_reducible rfl)
        try simp only [Act.put, List.setIfInBounds_toArray, List.set_cons_zero, List.set_cons_succ]
        refine wpAnyH_take (i := 11) (oi := { dst := some 152, op := Op.slice 24 (Operand.tmp 151) (some (Operand.const (Value.int IntKind.i64 1))) none none, type := 24, pos := "laws.go:489", after := #[{ on := 10, ground := Ground.data }, { on := 7, ground := Ground.guard }], guard := some (7, true) }) (v := ?vh11) rfl (by kernel_rfl) (by kernel_rfl) (by kernel_rfl) (fun _ _ _ h => h) (Or.inl ⟨by rfl, ?hyh11⟩) hHeld ?_
        case hyh11 => (intro w hSw; (try dsimp only at hSw); go_simp <;> with_reducible rfl)
        try simp only [Act.put, List.setIfInBounds_toArray, List.set_cons_zero, List.set_cons_succ]
        refine wpAnyH_ready (rs := [9]) (by kernel_rfl) (by simp) ?_
        refine AllReadyH.cons (o := { dst := some 150, op := Op.call { callee := Callee.value (Operand.func 12), args := #[Operand.tmp 149], argTypes := #[24] }, type := 24, pos := "laws.go:489", after := #[{ on := 8, ground := Ground.data }, { on := 7, ground := Ground.chain }, { on := 7, ground := Ground.guard }], guard := some (7, true) }) rfl (fun K hK => ?_) AllReadyH.nil
        go_simp
        refine (C9.out _ hHeld.1).mono ?_
        rintro r wvh9 ⟨⟨M9, c9, rfl, hr9⟩, hy⟩
        have HK9 := hr9.rd
        clear hr9
        have hz : Below wr.heap.size wr wvh9 := grow_on hHeld.1 hy
        clear hHeld hy
        refine hK.out _ _ (HS.out _ hz) (fun hHeld => ?_)
        clear hK K hz
        try simp only [Act.put, List.setIfInBounds_toArray, List.set_cons_zero, List.set_cons_succ]
        refine wpAnyH_ready (rs := [12]) (by kernel_rfl) (by simp) ?_
        refine AllReadyH.cons (o := { dst := some 153, op := Op.call { callee := Callee.value (Operand.func 17), args := #[Operand.tmp 150, Operand.tmp 152], argTypes := #[24, 24] }, type := 4, pos := "laws.go:489", after := #[{ on := 9, ground := Ground.data }, { on := 11, ground := Ground.data }, { on := 9, ground := Ground.chain }, { on := 7, ground := Ground.guard }], guard := some (7, true) }) rfl (fun K hK => ?_) AllReadyH.nil
        go_simp
        refine (C12.out _ _ _ _ _ hHeld.1 HK9 (HT.out _ hHeld.1)).mono ?_
        rintro r wvh12 ⟨rfl, hy⟩
        have hz : Below wr.heap.size wr wvh12 := grow_on hHeld.1 hy
        clear hHeld hy
        refine hK.out _ _ (HS.out _ hz) (fun hHeld => ?_)
        clear hK K hz
        try simp only [Act.put, List.setIfInBounds_toArray, List.set_cons_zero, List.set_cons_succ]
        refine wpAnyH_take (i := 13) (oi := { dst := some 154, op := Op.pick (Operand.tmp 148) (Operand.tmp 153) (Operand.const (Value.bool false)), type := 4, pos := "laws.go:489", after := #[{ on := 7, ground := Ground.data }, { on := 12, ground := Ground.data }], guard := none }) (v := ?vh13) rfl (by kernel_rfl) (by kernel_rfl) (by kernel_rfl) (fun _ _ _ h => h) (Or.inl ⟨by rfl, ?hyh13⟩) hHeld ?_
        case hyh13 => (intro w hSw; (try dsimp only at hSw); go_simp <;> with_reducible rfl)
        try simp only [Act.put, List.setIfInBounds_toArray, List.set_cons_zero, List.set_cons_succ]
        refine wpAnyH_take (i := 14) (oi := { dst := some 2, op := Op.assign (Operand.tmp 154), type := 4, pos := "laws.go:489", after := #[{ on := 13, ground := Ground.data }, { on := 12, ground := Ground.chain }, { on := 0, ground := Ground.phase }, { on := 1, ground := Ground.phase }, { on := 2, ground := Ground.phase }, { on := 3, ground := Ground.phase }, { on := 4, ground := Ground.phase }, { on := 5, ground := Ground.phase }, { on := 6, ground := Ground.phase }, { on := 7, ground := Ground.phase }, { on := 8, ground := Ground.phase }, { on := 9, ground := Ground.phase }, { on := 10, ground := Ground.phase }, { on := 11, ground := Ground.phase }, { on := 12, ground := Ground.phase }, { on := 13, ground := Ground.phase }], guard := none }) (v := ?vh14) rfl (by kernel_rfl) (by kernel_rfl) (by kernel_rfl) (fun _ _ _ h => h) (Or.inl ⟨by rfl, ?hyh14⟩) hHeld ?_
        case hyh14 => (intro w hSw; (try dsimp only at hSw); go_simp <;> with_reducible rfl)
        try simp only [Act.put, List.setIfInBounds_toArray, List.set_cons_zero, List.set_cons_succ]
        refine wpAnyH_done (by kernel_rfl) ?_ _
        have HBZ : Hid (Below w.heap.size w wvh12) := grow_on B_wr.out hHeld.1
        clear hHeld HS
        go_wp2
        go_ret
        exact ⟨rfl, HBZ.out⟩

theorem walk (a : Option Addr) (len cap : Nat) (zs : List Int) (w : World) (h : IsRow .u8 w a len cap zs) :
    Calls Try.prog 3 #[.slice a len cap] w fun e w' => e = .returned (.bool true) ∧ Below w.heap.size w w' := by
  obtain ⟨hl, hb⟩ := bytes_of h
  exact core a len cap w hl hb
theorem own : ownKnob Try.prog.godebug = none := by kernel_rfl
theorem laidOut : laidOutB Try.prog = true := by kernel_rfl
set_option maxRecDepth 100000 in
theorem lifted (os : Os) (started : os.Started) (H : Type) (enc : TypeId × Value → H) :
    ReturnsInHanded {} Try.checked os 3 .any (Rows.fnHeapsSpec.pre6 enc Try.prog Try.f3 Rows.fnHeapsRow.domain false) (Rows.fnHeapsSpec.post enc Try.prog Try.f3 false true false false) := by
  refine returnsInHanded_of_change (C := Try.checked) own started (by kernel_rfl) Try.func3
    (ChangeSpec.witness6 (enc := enc) (C := Try.checked) false ⟨#[], #[.slice none 0 0], []⟩ 8 (by kernel_rfl) (by kernel_rfl) (by kernel_rfl) (by kernel_rfl)) ?_
  intro W base args ds gs before hval0 hW hcnd _
  have hval : ∀ (j : Nat) t v, Try.f3.params[j]? = some t → args[j]? = some v → Value.okWide Try.prog W .any base t v := hval0
  have hW' := hW
  obtain ⟨p, q, hA0, hV, rfl, hfz, hnd⟩ := hW
  have hA : DataW.TrodAll enc Try.prog W 0 (fun _ => true) true Try.f3.params.toList args.toList ds p := hA0
  rw [Try.params3] at hA hval
  obtain ⟨v0, vs0, d0, ds0, p0, q0, hargs, rfl, rfl, h0, r0⟩ := trodAll_cons hA
  obtain ⟨rfl, rfl, rfl⟩ := trodAll_nil r0
  obtain rfl : args = #[v0] := by cases args; simp_all
  obtain ⟨rfl, rfl⟩ := trodVars_none hV
  obtain ⟨a0, len0, cap0, rfl⟩ := okWide_slice Try.underlying22 (hval 0 22 v0 rfl rfl)
  have k0 := h0
  have lt0 : ∀ x ∈ p0, x.block < W.heap.size := by obtain ⟨m, hm⟩ := k0; exact DataW.trod_lt m _ _ _ hm
  obtain ⟨z0, w0⟩ : ∃ zs, IsRow .u8 W a0 len0 cap0 zs := by
    obtain ⟨fuel, hf⟩ := h0
    rcases open_ints Try.underlying22 Try.underlying5 (by kernel_rfl) hf with ⟨hcs, _⟩ | ⟨x, l, c, zs, hcs, _, hl, hm, hz, _, hcell, hwz⟩
    · simp [Value.cells] at hcs
      obtain ⟨rfl, rfl, rfl⟩ := hcs
      exact ⟨[], .inl ⟨rfl, rfl, rfl, rfl⟩⟩
    · simp [Value.cells] at hcs
      obtain ⟨rfl, rfl, rfl⟩ := hcs
      exact ⟨zs, .inr ⟨_, rfl, hl, hm, by simpa using hz, hcell, hwz⟩⟩
  clear hA0 hval0
  refine (walk a0 len0 cap0 z0 W w0).mono fun e W' ⟨he, bel⟩ => ?_
  subst he
  exact ⟨_, rfl, _, _, _, [], _, [], hW', trodAll_mk1 (shut_bool Try.underlying4 _), (trodAll_cons_mk (Below.trod laidOut (by kernel_rfl) (of_decide_eq_true (by kernel_rfl)) k0 bel lt0) trodAll_mk0), rfl, bel.frame _, fun h => by cases h⟩

theorem over : Rows.fnHeapsRow.holds Try.pinned (OpenSpec.ofChange Rows.fnHeapsSpec) :=
  OpenClaim.holds_of_wide 3 Try.f3 rfl rfl rfl rfl rfl rfl rfl ⟨rfl, rfl, rfl, rfl, rfl⟩ rfl rfl rfl rfl rfl (by kernel_rfl) Try.func3 (by kernel_rfl)
    (of_decide_eq_true (by kernel_rfl)) (by unfold Func.isWrapper; first | (rw [if_pos (by decide +kernel)]; kernel_rfl) | (rw [if_neg (by decide +kernel)]; exact ⟨rfl, rfl⟩))
    (fun os started H enc _ => lifted os started H enc)

end Go.Proofs.Ytcjhieknmblbbaa.FnHeaps
namespace Go.Proofs.Ytcjhieknmblbbaa
theorem fnHeaps_holds : Rows.FnHeapsSaid := FnHeaps.over
#print axioms fnHeaps_holds
end Go.Proofs.Ytcjhieknmblbbaa
