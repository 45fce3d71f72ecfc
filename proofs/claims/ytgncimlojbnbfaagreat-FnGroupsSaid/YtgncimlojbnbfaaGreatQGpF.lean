/-
  PROVED: spec.GroupAt answers the place of the first group of a number; nothing that was there is changed.
  PROVED: spec.FlushAt answers the groups with the one of a number sent on, or without it where it has no alarms then, and its batch, in memory of their own; nothing that was there is changed.
-/
import Derived.Test.YtgncimlojbnbfaaGreatQGpD
import Derived.Test.YtgncimlojbnbfaaGreatQTk
import Derived.Test.YtgncimlojbnbfaaGreatQGpC
import Derived.Test.YtgncimlojbnbfaaGreatQGrpJ
set_option linter.unusedVariables false
namespace Go.Proofs.YtgncimlojbnbfaaGreat.GpAt
open Go.RowKit
open Labs LabS Alms Over Blk App Gps GpD
set_option maxHeartbeats 1600000 in
theorem specAt_any (a : Option Addr) (cap : Nat) (U : List PGr) (n : Int) (w : World) (hr : RdGs GA w a U) (hl : U.length ≤ 1048576) :
    Calls Tryz.prog 22 #[.slice a U.length cap, .int .i64 n] w fun e w' => e = .returned (.int .i64 (ofI (numIs n) U)) ∧ Below w.heap.size w w' := by
  have HR : Hid (RdGs GA w a U) := hr
  clear hr
  go_enter Tryz.func22, Tryz.ntmps22
  go_wp2
  go_loopw [5] (fun i w' => ∃ k : Nat, i = .int .i64 k ∧ k ≤ U.length ∧ (∀ j, j < k → numIs n (nthG U j) = false) ∧ Below w.heap.size w w') (fun i _ => U.length - (intOf i).toNat)
  case atStart => exact ⟨0, rfl, Nat.zero_le _, fun j h => by omega, Below.refl _ _⟩
  case round =>
    obtain ⟨k, rfl, hk, hu, hw0⟩ := hrel
    have HU : Hid (∀ j, j < k → numIs n (nthG U j) = false) := hu
    have HB : Hid (Below w.heap.size w wr) := hw0
    clear hu hw0
    by_cases hlt : k < U.length
    · have hlt' : (k : Int) < (U.length : Int) := by omega
      obtain ⟨b, off, rfl, hb, kb, kd, ad, cp, hat⟩ := (HR.out.below stays_ga HB.out).get hlt
      have x0 := hat.c0
      clear hat
      by_cases he : (nthG U k).n = n
      · have HE : Hid (ofI (numIs n) U = (k : Int)) := ofI_at hlt HU.out (decide_eq_true he)
        have he' : ((nthG U k).n == n) = true := by simpa using he
        clear he
        go_wp2
        go_ret
        exact ⟨retN HE.out.symm, HB.out⟩
      · have HU1 : Hid (∀ j, j < k + 1 → numIs n (nthG U j) = false) := fun j hj => by
          by_cases e : j = k
          · subst e; exact decide_eq_false he
          · exact HU.out j (by omega)
        have he' : ((nthG U k).n == n) = false := by simpa using he
        clear he
        go_wp2
        go_roundw
        case rel => exact ⟨k + 1, by go_num, by omega, HU1.out, HB.out⟩
        case measure => simp [intOf]; omega
    · have hge : ¬ (k : Int) < (U.length : Int) := by omega
      have HE : Hid (ofI (numIs n) U = -1) := ofI_end fun j hj => HU.out j (by omega)
      go_wp2
      go_ret
      exact ⟨retN HE.out.symm, HB.out⟩
end Go.Proofs.YtgncimlojbnbfaaGreat.GpAt
namespace Go.Proofs.YtgncimlojbnbfaaGreat.GpF
open Go.RowKit
open Labs LabS Alms AlmS AlmM Over Blk App Rws ChnI ChnC ChnK Chs Grp GrpC Gps GpD GpAt GpC
open GrpJ (bel_alloc)
open GrpF (specFlush_any)
open ChnP (own_grow)
theorem blk_same {w : World} {M : Nat} {cs ds : Array Value} {T U : TypeId} (h : Blk w M cs T) (k : Blk w M ds U) : cs = ds := by
  unfold Blk at h k
  rw [h] at k
  cases k
  rfl
def sentG (now : Int) (y : PGr) : PGr := ⟨y.n, y.key, y.b, now, leftTo y.P now y.P.length⟩
def flushG (U : List PGr) (k : Nat) (now : Int) : List PGr := if (leftTo (nthG U k).P now (nthG U k).P.length).length = 0 then U.take k ++ U.drop (k + 1) else U.set k (sentG now (nthG U k))
theorem flush_none {U : List PGr} {k : Nat} {now : Int} (h : (leftTo (nthG U k).P now (nthG U k).P.length).length = 0) : flushG U k now = U.take k ++ U.drop (k + 1) := if_pos h
theorem flush_some {U : List PGr} {k : Nat} {now : Int} (h : ¬ (leftTo (nthG U k).P now (nthG U k).P.length).length = 0) : flushG U k now = U.set k (sentG now (nthG U k)) := if_neg h
structure FlA (lo : Nat) (w : World) (U : List PGr) (k : Nat) (now : Int) (M c : Nat) (us : List GRow) (K2 M2 c2 : Nat) (rs2 : List ARow) : Prop where
  gs : GsB lo w M c us
  caps : CapsG us
  gr : grs us = flushG U k now
  bt : GB lo w K2 (nthG U k).key M2 0 rs2
  bc : AB lo w M2 c2 rs2
  bp : pals rs2 = (nthG U k).P
theorem FlA.grow {lo : Nat} {w w' : World} {U : List PGr} {k : Nat} {now : Int} {M c : Nat} {us : List GRow} {K2 M2 c2 : Nat} {rs2 : List ARow} (h : FlA lo w U k now M c us K2 M2 c2 rs2) (hb : Below w.heap.size w w') : FlA lo w' U k now M c us K2 M2 c2 rs2 := ⟨h.gs.grow hb, h.caps, h.gr, h.bt.grow hb, h.bc.grow hb, h.bp⟩
theorem FlA.moved {lo : Nat} {w w' : World} {U : List PGr} {k : Nat} {now : Int} {M c : Nat} {us : List GRow} {K2 M2 c2 : Nat} {rs2 : List ARow} (h : FlA lo w U k now M c us K2 M2 c2 rs2) (hm : Moved w w') (hg : ∀ cs, Blk w M cs 53 → Blk w' M cs 53) : FlA lo w' U k now M c us K2 M2 c2 rs2 := by
  obtain ⟨cur, h1, h2⟩ := h.gs.outer
  exact ⟨⟨h.gs.at', h.gs.cap, ⟨cur, hg _ h1, h2⟩, h.gs.rows.moved hm⟩, h.caps, h.gr, gb_moved h.bt hm, Chs.ab_moved h.bc hm, h.bp⟩
theorem FlA.down {lo lo' : Nat} {w : World} {U : List PGr} {k : Nat} {now : Int} {M c : Nat} {us : List GRow} {K2 M2 c2 : Nat} {rs2 : List ARow} (h : FlA lo w U k now M c us K2 M2 c2 rs2) (hl : lo' ≤ lo) : FlA lo' w U k now M c us K2 M2 c2 rs2 := ⟨h.gs.down hl, h.caps, h.gr, h.bt.down hl, h.bc.down hl, h.bp⟩
theorem FlA.far {lo : Nat} {w : World} {U : List PGr} {k : Nat} {now : Int} {M c : Nat} {us : List GRow} {K2 M2 c2 : Nat} {rs2 : List ARow} (h : FlA lo w U k now M c us K2 M2 c2 rs2) {N : Nat} {cs : Array Value} {T : TypeId} (hN : Blk w N cs T) (hA : T ≠ 27) (hL : T ≠ 99) (hG : T ≠ 53) (i : Nat) (v : Value) : FlA lo (w.setCell ⟨N, i, none⟩ v) U k now M c us K2 M2 c2 rs2 := by
  obtain ⟨cur, h1, h2⟩ := h.gs.outer
  have hne : N ≠ M := fun e => by
    subst e
    unfold Blk at hN h1
    rw [hN] at h1
    cases h1
    exact hG rfl
  exact h.moved (Moved.set hN hA hL i v) fun cs hcs => hcs.set_other (p := ⟨N, i, none⟩) hne v
set_option maxRecDepth 100000 in
set_option maxHeartbeats 6400000 in
theorem specFlushA_any (a : Option Addr) (cap : Nat) (U : List PGr) (n now : Int) (w : World) (hr : RdGs GN w a U) (hl : U.length ≤ 1048576) (hcap : U.length ≤ cap ∧ cap ≤ maxLen) (hs : SmallG U) :
    Calls Tryz.prog 10 #[.slice a U.length cap, .int .i64 n, .int .i64 now] w fun e w' => ((ofI (numIs n) U = -1 ∧ ∃ M c us, e = .returned (.tuple #[.slice (some ⟨M, 0, none⟩) us.length c, .agg #[.int .i64 0, .slice none 0 0, .int .i64 0, .slice none 0 0], .bool false]) ∧ GsB w.heap.size w' M c us ∧ CapsG us ∧ grs us = U) ∨ (∃ k : Nat, ofI (numIs n) U = (k : Int) ∧ k < U.length ∧ ∃ M c us K2 kd2 M2 c2 rs2, e = .returned (.tuple #[.slice (some ⟨M, 0, none⟩) us.length c, .agg #[.int .i64 (nthG U k).n, .slice (some ⟨K2, 0, none⟩) (nthG U k).key.length kd2, .int .i64 now, .slice (some ⟨M2, 0, none⟩) rs2.length c2], .bool true]) ∧ FlA w.heap.size w' U k now M c us K2 M2 c2 rs2)) ∧ Below w.heap.size w w' := by
  have HR : Hid (RdGs GN w a U ∧ SmallG U ∧ U.length ≤ cap) := ⟨hr, hs, hcap.1⟩
  have hcapm := hcap.2
  unfold maxLen at hcapm
  have hcapl := hcap.1
  clear hr hs hcap
  obtain ⟨i0, hi, hz0, hz1, hz2⟩ := info_parts infoG
  generalize hW0 : w.alloc (.cells #[.int .i64 0, .slice none 0 0, .int .i64 0, .slice none 0 0] 37) = W0
  have HB0 : Hid (Below w.heap.size w W0) := by rw [← hW0]; exact Go.Joins.below_alloc1 w _
  have BR0 : Hid (Blk W0 w.heap.size #[.int .i64 0, .slice none 0 0, .int .i64 0, .slice none 0 0] 37) := by rw [← hW0]; exact Blk.new _ _ _
  have HZ0 : Hid (W0.heap.size = w.heap.size + 1) := by show _ = _; rw [← hW0]; simp
  go_enter Tryz.func10, Tryz.ntmps10
  go_upto_region 1 with fail
  try rw [hW0]
  clear hW0
  go_wp2_with fail
  refine (l12Copy_any a cap U _ (HR.out.1.below stays_gn HB0.out) hl HR.out.2.1).mono ?_
  rintro e w1 ⟨⟨M, c, us, rfl, hg, hp, hcp⟩, hb1⟩
  have HG1 : Hid (GsB (w.heap.size + 1) w1 M c us ∧ CapsG us ∧ grs us = U) := ⟨hg.down (by rw [HZ0.out]; exact Nat.le_refl _), hcp, hp⟩
  have HUL : Hid (us.length = U.length) := by have := congrArg List.length hp; rw [grs_len] at this; exact this
  have HB1 : Hid (Below w.heap.size w w1) := grow_on HB0.out hb1
  have BR1 : Hid (Blk w1 w.heap.size #[.int .i64 0, .slice none 0 0, .int .i64 0, .slice none 0 0] 37) := BR0.out.grow hb1
  clear hg hp hcp hb1 BR0 HB0
  go_wp2_with fail
  refine (specAt_any a cap U n _ ((HR.out.1.below stays_gn HB1.out).rd) hl).mono ?_
  rintro e z ⟨rfl, hb2⟩
  have HG : Hid (GsB (w.heap.size + 1) z M c us) := HG1.out.1.grow hb2
  have HB : Hid (Below w.heap.size w z) := grow_on HB1.out hb2
  have BR : Hid (Blk z w.heap.size #[.int .i64 0, .slice none 0 0, .int .i64 0, .slice none 0 0] 37) := BR1.out.grow hb2
  have HLz : Hid (w.heap.size + 1 ≤ z.heap.size) := by have := HG.out.lt; have := HG.out.at'; show _ ≤ _; omega
  clear hb2 HB1 BR1
  rcases ofI_cases (numIs n) U with ⟨he, _⟩ | ⟨k, he, hkl, _, _⟩
  · have HE : Hid (ofI (numIs n) U = -1) := he
    rw [he]
    clear he
    have r0 := BR.out.cell 0
    have fr0 := BR.out.frozen 0
    have r1 := BR.out.cell 1
    have fr1 := BR.out.frozen 1
    have r2 := BR.out.cell 2
    have fr2 := BR.out.frozen 2
    have r3 := BR.out.cell 3
    have fr3 := BR.out.frozen 3
    simp at r0 r1 r2 r3
    go_wp2
    have hR : Blk _ w.heap.size #[.int .i64 0, .slice none 0 0, .int .i64 0, .slice none 0 0] 37 := ((((BR.out.set 0 (.int .i64 0)).set 1 (.slice none 0 0)).set 2 (.int .i64 0)).set 3 (.slice none 0 0))
    have s0 := hR.cell 0
    have s1 := hR.cell 1
    have s2 := hR.cell 2
    have s3 := hR.cell 3
    have hm := ((((Moved.set BR.out (by decide) (by decide) 0 (.int .i64 0)).trans (Moved.set (BR.out.set 0 (.int .i64 0)) (by decide) (by decide) 1 (.slice none 0 0))).trans (Moved.set ((BR.out.set 0 (.int .i64 0)).set 1 (.slice none 0 0)) (by decide) (by decide) 2 (.int .i64 0))).trans (Moved.set (((BR.out.set 0 (.int .i64 0)).set 1 (.slice none 0 0)).set 2 (.int .i64 0)) (by decide) (by decide) 3 (.slice none 0 0)))
    have hne : w.heap.size ≠ M := by have := HG.out.at'; omega
    obtain ⟨cur, c1, c2⟩ := HG.out.outer
    have hgs : GsB (w.heap.size + 1) _ M c us := ⟨HG.out.at', HG.out.cap, ⟨cur, ((((c1.set_other (p := ⟨w.heap.size, 0, none⟩) hne (.int .i64 0)).set_other (p := ⟨w.heap.size, 1, none⟩) hne (.slice none 0 0)).set_other (p := ⟨w.heap.size, 2, none⟩) hne (.int .i64 0)).set_other (p := ⟨w.heap.size, 3, none⟩) hne (.slice none 0 0)), c2⟩, HG.out.rows.moved hm⟩
    refine bodyPost_ret (v := .tuple #[.slice (some ⟨M, 0, none⟩) us.length c, .agg #[.int .i64 0, .slice none 0 0, .int .i64 0, .slice none 0 0], .bool false]) (by simp [results, Tryz.results10, go_sem, s0, s1, s2, s3]) rfl ?_
    exact ⟨.inl ⟨HE.out, M, c, us, rfl, hgs.down (by omega), HG1.out.2.1, HG1.out.2.2⟩, (set_low (set_low (set_low (set_low HB.out (M := w.heap.size) (Nat.le_refl _) 0 (.int .i64 0)) (M := w.heap.size) (Nat.le_refl _) 1 (.slice none 0 0)) (M := w.heap.size) (Nat.le_refl _) 2 (.int .i64 0)) (M := w.heap.size) (Nat.le_refl _) 3 (.slice none 0 0))⟩
  · have HE : Hid (ofI (numIs n) U = (k : Int) ∧ k < U.length) := ⟨he, hkl⟩
    have hk0 : ¬ (k : Int) < 0 := by omega
    have hklt : (k : Int) < (U.length : Int) := by omega
    rw [he]
    clear he
    obtain ⟨b, off, rfl, hbz, ka, kc, ad, cp, hat⟩ := (HR.out.1.below stays_gn HB.out).get hkl
    obtain ⟨⟨gk, ok, rfl⟩, ⟨gl, ol, rfl⟩, _, _, _⟩ := hat.reads
    have HAT : Hid (AtG GN z b off k (nthG U k) (some ⟨gk, ok, none⟩) kc (some ⟨gl, ol, none⟩) cp) := hat
    have hsm : Hid (SmG (nthG U k)) := HR.out.2.1 _ (nthG_mem hkl)
    have h0 := hat.c0
    have h1 := hat.c1
    have h2 := hat.c2
    have h3 := hat.c3
    have h4 := hat.c4
    clear hat
    go_wp2_with fail
    refine (specFlush_any (nthG U k).n (nthG U k).b (nthG U k).t gk ok kc (nthG U k).key (some ⟨gl, ol, none⟩) cp (nthG U k).P now z HAT.out.reads.2.2.2.1 hsm.out.1 HAT.out.reads.2.2.2.2 hsm.out.2.1 hsm.out.2.2).mono ?_
    rintro e w4 ⟨⟨Ke, kd, M1, c1, rs1, K2, kd2, M2, c2, rs2, rfl, hG1, hA1, hP1, hG2, hA2, hP2⟩, hb4⟩
    have HF1 : Hid (GB z.heap.size w4 Ke (nthG U k).key M1 0 rs1 ∧ (rs1.length ≤ c1 ∧ c1 ≤ maxLen) ∧ pals rs1 = leftTo (nthG U k).P now (nthG U k).P.length) := ⟨hG1, hA1.cap, hP1⟩
    have HF2 : Hid (GB z.heap.size w4 K2 (nthG U k).key M2 0 rs2 ∧ AB z.heap.size w4 M2 c2 rs2 ∧ pals rs2 = (nthG U k).P) := ⟨hG2, hA2, hP2⟩
    have HB4 : Hid (Below w.heap.size w w4) := grow_on HB.out hb4
    have HG4 : Hid (GsB (w.heap.size + 1) w4 M c us) := HG.out.grow hb4
    have BR4 : Hid (Blk w4 w.heap.size #[.int .i64 0, .slice none 0 0, .int .i64 0, .slice none 0 0] 37) := BR.out.grow hb4
    have HL4 : Hid (z.heap.size ≤ w4.heap.size) := hb4.size
    have HMz : Hid (M < z.heap.size) := HG.out.lt
    have HNR : Hid (∀ u ∈ us, ∀ q, u.blks q → q < z.heap.size) := fun u hu q hq => (HG.out.rows.rng hu q hq).2
    clear hG1 hA1 hP1 hG2 hA2 hP2 hb4 h0 h1 h2 h3 h4 HG HB BR HAT
    go_upto_region 6 with fail
    generalize hW5 : (w4.alloc (.cells #[.int .i64 (nthG U k).n, .slice (some ⟨Ke, 0, none⟩) (nthG U k).key.length kd, .int .i64 (nthG U k).b, .int .i64 now, .slice (some ⟨M1, 0, none⟩) rs1.length c1] 53)).alloc (.cells #[.int .i64 (nthG U k).n, .slice (some ⟨K2, 0, none⟩) (nthG U k).key.length kd2, .int .i64 now, .slice (some ⟨M2, 0, none⟩) rs2.length c2] 37) = W5 at *
    have hb5 : Below w4.heap.size w4 W5 := by rw [← hW5]; exact Go.Joins.below_alloc2 w4 _ _
    have BX5 : Hid (Blk W5 w4.heap.size #[.int .i64 (nthG U k).n, .slice (some ⟨Ke, 0, none⟩) (nthG U k).key.length kd, .int .i64 (nthG U k).b, .int .i64 now, .slice (some ⟨M1, 0, none⟩) rs1.length c1] 53) := by rw [← hW5]; exact (Blk.new _ _ _).alloc _
    have BB5 : Hid (Blk W5 (w4.heap.size + 1) #[.int .i64 (nthG U k).n, .slice (some ⟨K2, 0, none⟩) (nthG U k).key.length kd2, .int .i64 now, .slice (some ⟨M2, 0, none⟩) rs2.length c2] 37) := by rw [← hW5]; exact Blk.new_at (by simp)
    have HG5 : Hid (GsB (w.heap.size + 1) W5 M c us) := HG4.out.grow hb5
    have HB5 : Hid (Below w.heap.size w W5) := grow_on HB4.out hb5
    have BR5 : Hid (Blk W5 w.heap.size #[.int .i64 0, .slice none 0 0, .int .i64 0, .slice none 0 0] 37) := BR4.out.grow hb5
    have HS5 : Hid (GB z.heap.size W5 Ke (nthG U k).key M1 0 rs1 ∧ GB z.heap.size W5 K2 (nthG U k).key M2 0 rs2 ∧ AB z.heap.size W5 M2 c2 rs2) := ⟨HF1.out.1.grow hb5, HF2.out.1.grow hb5, HF2.out.2.1.grow hb5⟩
    obtain ⟨y, hy⟩ : ∃ y : GRow, y = ⟨(nthG U k).n, Ke, kd, (nthG U k).key, (nthG U k).b, now, M1, 0, c1, rs1⟩ := ⟨_, rfl⟩
    have HYD : Hid (y = ⟨(nthG U k).n, Ke, kd, (nthG U k).key, (nthG U k).b, now, M1, 0, c1, rs1⟩) := hy
    have hku : k < us.length := by have := HUL.out; omega
    have hku' : (k : Int) < (us.length : Int) := by omega
    have HKU : Hid (k < us.length) := hku
    have HPUT : Hid (GsB (w.heap.size + 1) (put5W W5 M k y) M c (us.set k y)) := GsB.put HG5.out hku (by rw [hy]; exact HS5.out.1.down (by have := HLz.out; omega)) (fun u hu q h1 h2 => by
      rw [hy] at h2
      have e1 := HNR.out u hu q h1
      have e2 := (HS5.out.1.rng q h2).1
      omega)
    have hMg : ∃ cur, Blk W5 M cur 53 := by obtain ⟨cur, h, _⟩ := HG5.out.outer; exact ⟨cur, h⟩
    obtain ⟨cur0, hcur0⟩ := hMg
    have HMV : Hid (Moved W5 (put5W W5 M k y)) := put5W_moved hcur0
    have hMw4 : M ≠ w4.heap.size := by have := HMz.out; have := HL4.out; omega
    have hMw41 : M ≠ w4.heap.size + 1 := by have := HMz.out; have := HL4.out; omega
    have hMw : M ≠ w.heap.size := by have := HG5.out.at'; omega
    have oth : ∀ (N : Nat) (cs : Array Value) (T : TypeId), M ≠ N → Blk W5 N cs T → Blk (put5W W5 M k y) N cs T := fun N cs T hne h => ((((h.set_other (p := ⟨M, _, none⟩) hne _).set_other (p := ⟨M, _, none⟩) hne _).set_other (p := ⟨M, _, none⟩) hne _).set_other (p := ⟨M, _, none⟩) hne _).set_other (p := ⟨M, _, none⟩) hne _
    have BX6 : Hid (Blk (put5W W5 M k y) w4.heap.size #[.int .i64 (nthG U k).n, .slice (some ⟨Ke, 0, none⟩) (nthG U k).key.length kd, .int .i64 (nthG U k).b, .int .i64 now, .slice (some ⟨M1, 0, none⟩) rs1.length c1] 53) := oth _ _ _ hMw4 BX5.out
    have BB6 : Hid (Blk (put5W W5 M k y) (w4.heap.size + 1) #[.int .i64 (nthG U k).n, .slice (some ⟨K2, 0, none⟩) (nthG U k).key.length kd2, .int .i64 now, .slice (some ⟨M2, 0, none⟩) rs2.length c2] 37) := oth _ _ _ hMw41 BB5.out
    have BR6 : Hid (Blk (put5W W5 M k y) w.heap.size #[.int .i64 0, .slice none 0 0, .int .i64 0, .slice none 0 0] 37) := oth _ _ _ hMw BR5.out
    have HB6 : Hid (Below w.heap.size w (put5W W5 M k y)) := put5W_low HB5.out (by have := HG5.out.at'; omega)
    have HS6 : Hid (GB z.heap.size (put5W W5 M k y) K2 (nthG U k).key M2 0 rs2 ∧ AB z.heap.size (put5W W5 M k y) M2 c2 rs2) := ⟨gb_moved HS5.out.2.1 HMV.out, Chs.ab_moved HS5.out.2.2 HMV.out⟩
    have HL6 : Hid (w4.heap.size + 2 ≤ (put5W W5 M k y).heap.size) := by have := BB6.out.lt; show _ ≤ _; omega
    obtain ⟨v0, v1, v2, v3, v4, q0, q1, q2, q3, q4⟩ := five_cells hcur0 k (by have h := HG5.out.outer; obtain ⟨c', h1, h2, _⟩ := h; have e := Go.Proofs.YtgncimlojbnbfaaGreat.GpF.blk_same hcur0 h1; have := HG5.out.cap; rw [e]; omega)
    have f0 := hcur0.frozen (k * 5)
    have f1 := hcur0.frozen (k * 5 + 1)
    have f2 := hcur0.frozen (k * 5 + 2)
    have f3 := hcur0.frozen (k * 5 + 3)
    have f4 := hcur0.frozen (k * 5 + 4)
    have n0 := BX5.out.cell 0
    have n1 := BX5.out.cell 1
    have n2 := BX5.out.cell 2
    have n3 := BX5.out.cell 3
    have n4 := BX5.out.cell 4
    simp at n0 n1 n2 n3 n4
    rw [hy] at HPUT BX6 BB6 BR6 HB6 HS6 HL6
    unfold put5W at HPUT BX6 BB6 BR6 HB6 HS6 HL6
    have hord : w.heap.size < w4.heap.size := by have := HLz.out; have := HL4.out; omega
    clear hW5 hb5 hcur0 oth HMV HS5 HG5 HB5 BR5 BX5 BB5 hy hMw4 hMw41 hMw HG4 BR4 HB4 hku
    go_upto_region 7 with fail
    generalize (((((W5.setCell ⟨M, k * 5, none⟩ (.int .i64 (nthG U k).n)).setCell ⟨M, k * 5 + 1, none⟩ (.slice (some ⟨Ke, 0, none⟩) (nthG U k).key.length kd)).setCell ⟨M, k * 5 + 2, none⟩ (.int .i64 (nthG U k).b)).setCell ⟨M, k * 5 + 3, none⟩ (.int .i64 now)).setCell ⟨M, k * 5 + 4, none⟩ (.slice (some ⟨M1, 0, none⟩) rs1.length c1)) = y6 at *
    have x4 := BX6.out.cell 4
    simp at x4
    have HFL : Hid (grs (us.set k y) = U.set k (sentG now (nthG U k)) ∧ CapsG (us.set k y) ∧ (us.set k y).length = us.length) := by
      refine ⟨?_, ?_, List.length_set⟩
      · rw [grs_set, HG1.out.2.2, HYD.out]; unfold GRow.gr sentG; rw [HF1.out.2.2]
      · exact caps_set HG1.out.2.1 (by rw [HYD.out]; exact HF1.out.2.1)
    have HLN : Hid (rs1.length = (leftTo (nthG U k).P now (nthG U k).P.length).length) := by rw [← HF1.out.2.2, pals_len]; exact (rfl : rs1.length = rs1.length)
    clear q0 q1 q2 q3 q4 f0 f1 f2 f3 f4 n0 n1 n2 n3 n4
    by_cases hz0' : rs1.length = 0
    ·
      have hzb : ((rs1.length : Int) == 0) = true := by simp [hz0']
      have HFN : Hid (flushG U k now = U.take k ++ U.drop (k + 1)) := flush_none (by rw [← HLN.out]; exact hz0')
      obtain ⟨m, hm⟩ : ∃ m, m = k + 1 := ⟨_, rfl⟩
      have em : (k : Int) + 1 = (m : Int) := by omega
      have hwm : IntKind.i64.wrap (m : Int) = (m : Int) := by rw [IntKind.wrap_i64]; omega
      have hmU : (m : Int) ≤ (U.length : Int) := by omega
      have hmc : (m : Int) ≤ (cap : Int) := by omega
      have hkc : (k : Int) ≤ (cap : Int) := by omega
      have hUc : (U.length : Int) ≤ (cap : Int) := by omega
      have HM : Hid (m = k + 1) := hm
      clear hm
      go_upto_region 8 with fail
      clear x4
      refine wp_region_held_drew (S := fun w' => True) (by kernel_rfl) (by trivial) (fun hHeld => ?_)
      refine tk 0 ⟨some 39, .move (.tmp 0), 24, "l12_groups.go:67", #[], none⟩ hHeld ?_
      try go_frame
      refine tk 1 ⟨some 40, .move (.tmp 10), 3, "l12_groups.go:67", #[], none⟩ hHeld ?_
      try go_frame
      refine tk 2 ⟨some 41, .slice 24 (.tmp 39) none (some (.tmp 40)) none, 24, "l12_groups.go:67", #[⟨0, .data⟩, ⟨1, .data⟩], none⟩ hHeld ?_
      try go_frame
      refine tk 4 ⟨some 43, .move (.tmp 0), 24, "l12_groups.go:67", #[], none⟩ hHeld ?_
      try go_frame
      refine tk 5 ⟨some 44, .move (.tmp 10), 3, "l12_groups.go:67", #[], none⟩ hHeld ?_
      try go_frame
      refine tk 6 ⟨some 45, .binOp .add 3 (.tmp 44) (.const (.int .i64 1)) 3, 3, "l12_groups.go:67", #[⟨5, .data⟩], none⟩ hHeld ?_
      try go_frame
      refine tk 7 ⟨some 46, .slice 24 (.tmp 43) (some (.tmp 45)) none none, 24, "l12_groups.go:67", #[⟨4, .data⟩, ⟨6, .data⟩], none⟩ hHeld ?_
      try go_frame
      refine rd1 3 ⟨some 42, .call { callee := .value (.func 34), args := #[.tmp 41], argTypes := #[24] }, 24, "l12_groups.go:67", #[⟨2, .data⟩], none⟩ (fun K hK => ?_)
      go_simp
      refine (l12_take (b := b) (off := off) (cap := cap) (k := k) (U := U) (HR.out.1.below stays_gn (grow_on HB6.out (Below.refl _ _).drew)) (by omega) hl HR.out.2.1).mono ?_
      rintro r wyfe3 ⟨⟨MA, cA, ua, rfl, hga, hpa, hca⟩, hb7⟩
      have Z7 : Hid (Below y6.heap.size y6 wyfe3) := grow_on (Below.refl _ _).drew hb7
      have HGA : Hid (GsB (w.heap.size + 1) wyfe3 MA cA ua ∧ CapsG ua ∧ grs ua = U.take k) := ⟨hga.down (by show w.heap.size + 1 ≤ y6.heap.size; have := HL6.out; omega), hca, hpa⟩
      have HGAr : Hid (∀ u ∈ ua, ∀ q, u.blks q → q < wyfe3.heap.size) := fun u hu q hq => (hga.rows.rng hu q hq).2
      have HMA : Hid (y6.heap.size ≤ MA) := hga.at'
      clear hga hpa hca hb7
      clear hHeld
      refine hK.out _ _ (trivial) (fun hHeld => ?_)
      clear hK K
      try go_frame
      refine rd1 8 ⟨some 47, .call { callee := .value (.func 34), args := #[.tmp 46], argTypes := #[24] }, 24, "l12_groups.go:67", #[⟨7, .data⟩, ⟨3, .chain⟩], none⟩ (fun K hK => ?_)
      go_simp
      refine (l12_drop (b := b) (off := off) (cap := cap) (k := m) (U := U) (HR.out.1.below stays_gn (grow_on HB6.out Z7.out)) HR.out.2.2 (by omega) hl HR.out.2.1).mono ?_
      rintro r wyfe8 ⟨⟨MB, cB, ub, rfl, hgb, hpb, hcb⟩, hb8⟩
      have Z8 : Hid (Below y6.heap.size y6 wyfe8) := grow_on Z7.out hb8
      have HGA8 : Hid (GsB (w.heap.size + 1) wyfe8 MA cA ua) := HGA.out.1.grow hb8
      have HGB : Hid (GsB wyfe3.heap.size wyfe8 MB cB ub ∧ CapsG ub ∧ grs ub = U.drop m) := ⟨hgb, hcb, hpb⟩
      clear hgb hpb hcb hb8
      clear hHeld
      refine hK.out _ _ (trivial) (fun hHeld => ?_)
      clear hK K
      try go_frame
      refine rd1 9 ⟨some 48, .call { callee := .builtin .append, args := #[.tmp 42, .tmp 47], argTypes := #[24, 24] }, 24, "l12_groups.go:67", #[⟨3, .data⟩, ⟨8, .data⟩, ⟨8, .chain⟩], none⟩ (fun K hK => ?_)
      have hual : ua.length ≤ 1048576 := by rw [← grs_len, HGA.out.2.2]; simp; omega
      have hubl : ub.length ≤ 1048576 := by rw [← grs_len, HGB.out.2.2]; simp; omega
      obtain ⟨xs, hox, hxl, hxs⟩ := HGA8.out.own
      obtain ⟨ys, hyl, hys, hy1, hyn⟩ := GpC.GsB.cells HGB.out.1
      refine step_appB (by rfl) _ _ 24 (by rfl) 53 i0 _ 5 72 Tryz.underlying24 hi hz0 hz1 hz2 (by rfl) (by decide) (w.heap.size + 1) ?ha _ ua.length xs (by rfl) hox ⟨MB, 0, none⟩ ub.length cB ys (by rfl) hyl hyn hy1 ?hb ?hc ?_
      case ha => have h1 := HL6.out; have h2 := Z8.out.size; omega
      case hb => unfold maxLen; omega
      case hc => omega
      intro v9 w9 hown hg hat
      obtain ⟨M9, c9, e9, hG9⟩ := HGA8.out.app (vs := ub) (ys := ys) (HGB.out.1.rows.down (by have := HL6.out; have := Z7.out.size; omega)) (fun u hu v hv q h1 h2 => by
        have e1 := HGAr.out u hu q h1
        have e2 := (HGB.out.1.rows.rng hv q h2).1
        omega) hxl hxs hyl hys (.inr (fun e => by rw [e] at hat; rcases hat with h | h <;> cases h)) hown hg
      subst e9
      have Z9 : Hid (Below y6.heap.size y6 w9) := Z8.out.grown hg Z8.out.size (fun q e => by have h : MA = q := Option.some.inj e; have := HMA.out; omega)
      have HF9 : Hid (FlA (w.heap.size + 1) w9 U k now M9 c9 (ua ++ ub) K2 M2 c2 rs2) := ⟨hG9, caps_app HGA.out.2.1 HGB.out.2.1, by rw [grs_app, HGA.out.2.2, HGB.out.2.2, HFN.out, HM.out], (HS6.out.1.grow Z9.out).down (by have := HLz.out; omega), (HS6.out.2.grow Z9.out).down (by have := HLz.out; omega), HF2.out.2.2⟩
      have HLL : Hid ((ua ++ ub).length = ua.length + ub.length) := List.length_append
      clear hox hxl hxs hyl hys hy1 hyn hown hg hat hG9 hual hubl
      clear hHeld
      refine hK.out _ _ trivial (fun hHeld => ?_)
      clear hK K
      try go_frame
      refine tk 10 ⟨some 9, .assign (.tmp 48), 24, "l12_groups.go:67", #[⟨9, .data⟩, ⟨9, .chain⟩, ⟨0, .phase⟩, ⟨1, .phase⟩, ⟨2, .phase⟩, ⟨3, .phase⟩, ⟨4, .phase⟩, ⟨5, .phase⟩, ⟨6, .phase⟩, ⟨7, .phase⟩, ⟨8, .phase⟩, ⟨9, .phase⟩], none⟩ hHeld ?_
      try go_frame
      refine wpAnyH_done (by kernel_rfl) ?_ _
      clear hHeld
      generalize (if cap = m then some (⟨b, off, none⟩ : Addr) else some (⟨b, off + m * 5, none⟩ : Addr)) = bb at *
      have BB9 : Hid (Blk w9 (w4.heap.size + 1) #[.int .i64 (nthG U k).n, .slice (some ⟨K2, 0, none⟩) (nthG U k).key.length kd2, .int .i64 now, .slice (some ⟨M2, 0, none⟩) rs2.length c2] 37) := BB6.out.grow Z9.out
      have BRn : Hid (Blk w9 w.heap.size #[.int .i64 0, .slice none 0 0, .int .i64 0, .slice none 0 0] 37) := BR6.out.grow Z9.out
      have HBn : Hid (Below w.heap.size w w9) := grow_on HB6.out Z9.out
      clear BX6 BB6 BR6 HB6 HS6 HGA HGB HGA8 HGAr HMA HPUT Z7 Z8
      go_upto_region 9 with fail
      have HS9 : Hid (∀ w', Blk w' (w4.heap.size + 1) #[.int .i64 (nthG U k).n, .slice (some ⟨K2, 0, none⟩) (nthG U k).key.length kd2, .int .i64 now, .slice (some ⟨M2, 0, none⟩) rs2.length c2] 37 → w'.cell? ⟨w4.heap.size + 1, 0, none⟩ = some (.int .i64 (nthG U k).n) ∧ w'.cell? ⟨w4.heap.size + 1, 1, none⟩ = some (.slice (some ⟨K2, 0, none⟩) (nthG U k).key.length kd2) ∧ w'.cell? ⟨w4.heap.size + 1, 2, none⟩ = some (.int .i64 now) ∧ w'.cell? ⟨w4.heap.size + 1, 3, none⟩ = some (.slice (some ⟨M2, 0, none⟩) rs2.length c2)) := fun w' h => ⟨h.cell 0, h.cell 1, h.cell 2, h.cell 3⟩
      refine wp_region_held_drew (S := fun w' => w'.cell? ⟨w4.heap.size + 1, 0, none⟩ = some (.int .i64 (nthG U k).n) ∧ w'.cell? ⟨w4.heap.size + 1, 1, none⟩ = some (.slice (some ⟨K2, 0, none⟩) (nthG U k).key.length kd2) ∧ w'.cell? ⟨w4.heap.size + 1, 2, none⟩ = some (.int .i64 now) ∧ w'.cell? ⟨w4.heap.size + 1, 3, none⟩ = some (.slice (some ⟨M2, 0, none⟩) rs2.length c2)) (by kernel_rfl) (HS9.out _ (BB9.out).drew) (fun hHeld => ?_)
      obtain ⟨yd, hyd⟩ : ∃ yd, yd = w9.drew := ⟨_, rfl⟩
      rw [← hyd] at hHeld ⊢
      have BR9 : Hid (Blk yd w.heap.size #[.int .i64 0, .slice none 0 0, .int .i64 0, .slice none 0 0] 37) := by rw [hyd]; exact (BRn.out).drew
      have BB9d : Hid (Blk yd (w4.heap.size + 1) #[.int .i64 (nthG U k).n, .slice (some ⟨K2, 0, none⟩) (nthG U k).key.length kd2, .int .i64 now, .slice (some ⟨M2, 0, none⟩) rs2.length c2] 37) := by rw [hyd]; exact (BB9.out).drew
      have HFd : Hid (FlA (w.heap.size + 1) yd U k now M9 c9 (ua ++ ub) K2 M2 c2 rs2) := by rw [hyd]; exact (HF9.out).grow (Below.refl _ _).drew
      have HBd : Hid (Below w.heap.size w yd) := by rw [hyd]; exact (HBn.out).drew
      clear hyd
      refine tk 0 ⟨some 49, .move (.tmp 9), 24, "l12_groups.go:69", #[], none⟩ hHeld ?_
      try go_frame
      refine tk 1 ⟨some 50, .load 37 (.tmp 12), 37, "l12_groups.go:69", #[⟨2, .gcOnly .lateStores⟩], none⟩ hHeld ?_
      try go_frame
      refine tk 2 ⟨some 6, .assign (.tmp 49), 24, "l12_groups.go:69", #[⟨0, .data⟩, ⟨0, .phase⟩, ⟨1, .textOnly .lateStores⟩], none⟩ hHeld ?_
      try go_frame
      refine rd1 3 ⟨none, .store 37 (.tmp 7) (.tmp 50), 0, "l12_groups.go:69", #[⟨1, .data⟩, ⟨2, .chain⟩, ⟨0, .phase⟩, ⟨1, .phase⟩, ⟨2, .phase⟩], none⟩ (fun K hK => ?_)
      have r0 := BR9.out.cell 0
      have fr0 := BR9.out.frozen 0
      have r1 := BR9.out.cell 1
      have fr1 := BR9.out.frozen 1
      have r2 := BR9.out.cell 2
      have fr2 := BR9.out.frozen 2
      have r3 := BR9.out.cell 3
      have fr3 := BR9.out.frozen 3
      simp at r0 r1 r2 r3
      go_simp
      clear hHeld
      refine hK.out _ _ (HS9.out _ ((((BB9d.out.set_other (p := ⟨w.heap.size, 0, none⟩) (by show w.heap.size ≠ w4.heap.size + 1; omega) (.int .i64 (nthG U k).n)).set_other (p := ⟨w.heap.size, 1, none⟩) (by show w.heap.size ≠ w4.heap.size + 1; omega) (.slice (some ⟨K2, 0, none⟩) (nthG U k).key.length kd2)).set_other (p := ⟨w.heap.size, 2, none⟩) (by show w.heap.size ≠ w4.heap.size + 1; omega) (.int .i64 now)).set_other (p := ⟨w.heap.size, 3, none⟩) (by show w.heap.size ≠ w4.heap.size + 1; omega) (.slice (some ⟨M2, 0, none⟩) rs2.length c2))) (fun hHeld => ?_)
      clear hK K
      try go_frame
      clear r0 fr0 r1 fr1 r2 fr2 r3 fr3
      refine tk 4 ⟨some 8, .assign (.const (.bool true)), 4, "l12_groups.go:69", #[⟨3, .chain⟩, ⟨0, .phase⟩, ⟨1, .phase⟩, ⟨2, .phase⟩, ⟨3, .phase⟩], none⟩ hHeld ?_
      try go_frame
      refine wpAnyH_done (by kernel_rfl) ?_ _
      clear hHeld
      go_wp2_with fail
      have hR : Blk _ w.heap.size #[.int .i64 (nthG U k).n, .slice (some ⟨K2, 0, none⟩) (nthG U k).key.length kd2, .int .i64 now, .slice (some ⟨M2, 0, none⟩) rs2.length c2] 37 := ((((BR9.out.set 0 (.int .i64 (nthG U k).n)).set 1 (.slice (some ⟨K2, 0, none⟩) (nthG U k).key.length kd2)).set 2 (.int .i64 now)).set 3 (.slice (some ⟨M2, 0, none⟩) rs2.length c2))
      have s0 := hR.cell 0
      have s1 := hR.cell 1
      have s2 := hR.cell 2
      have s3 := hR.cell 3
      have hfin := ((((HFd.out.far BR9.out (by decide) (by decide) (by decide) 0 (.int .i64 (nthG U k).n)).far (BR9.out.set 0 (.int .i64 (nthG U k).n)) (by decide) (by decide) (by decide) 1 (.slice (some ⟨K2, 0, none⟩) (nthG U k).key.length kd2)).far ((BR9.out.set 0 (.int .i64 (nthG U k).n)).set 1 (.slice (some ⟨K2, 0, none⟩) (nthG U k).key.length kd2)) (by decide) (by decide) (by decide) 2 (.int .i64 now)).far (((BR9.out.set 0 (.int .i64 (nthG U k).n)).set 1 (.slice (some ⟨K2, 0, none⟩) (nthG U k).key.length kd2)).set 2 (.int .i64 now)) (by decide) (by decide) (by decide) 3 (.slice (some ⟨M2, 0, none⟩) rs2.length c2))
      refine bodyPost_ret (v := .tuple #[.slice (some ⟨M9, 0, none⟩) (ua.length + ub.length) c9, .agg #[.int .i64 (nthG U k).n, .slice (some ⟨K2, 0, none⟩) (nthG U k).key.length kd2, .int .i64 now, .slice (some ⟨M2, 0, none⟩) rs2.length c2], .bool true]) (by simp [results, Tryz.results10, go_sem, s0, s1, s2, s3]) rfl ?_
      exact ⟨.inr ⟨k, HE.out.1, HE.out.2, M9, c9, (ua ++ ub), K2, kd2, M2, c2, rs2, by rw [HLL.out], hfin.down (by omega)⟩, (set_low (set_low (set_low (set_low HBd.out (M := w.heap.size) (Nat.le_refl _) 0 (.int .i64 (nthG U k).n)) (M := w.heap.size) (Nat.le_refl _) 1 (.slice (some ⟨K2, 0, none⟩) (nthG U k).key.length kd2)) (M := w.heap.size) (Nat.le_refl _) 2 (.int .i64 now)) (M := w.heap.size) (Nat.le_refl _) 3 (.slice (some ⟨M2, 0, none⟩) rs2.length c2))⟩
    ·
      have hzb : ((rs1.length : Int) == 0) = false := by simpa using hz0'
      have HFN : Hid (flushG U k now = U.set k (sentG now (nthG U k))) := flush_some (by rw [← HLN.out]; exact hz0')
      have HF9 : Hid (FlA (w.heap.size + 1) y6 U k now M c (us.set k y) K2 M2 c2 rs2) := ⟨by rw [HYD.out]; exact HPUT.out, HFL.out.2.1, HFL.out.1.trans HFN.out.symm, HS6.out.1.down (by have := HLz.out; omega), HS6.out.2.down (by have := HLz.out; omega), HF2.out.2.2⟩
      go_upto_region 9 with fail
      have HS9 : Hid (∀ w', Blk w' (w4.heap.size + 1) #[.int .i64 (nthG U k).n, .slice (some ⟨K2, 0, none⟩) (nthG U k).key.length kd2, .int .i64 now, .slice (some ⟨M2, 0, none⟩) rs2.length c2] 37 → w'.cell? ⟨w4.heap.size + 1, 0, none⟩ = some (.int .i64 (nthG U k).n) ∧ w'.cell? ⟨w4.heap.size + 1, 1, none⟩ = some (.slice (some ⟨K2, 0, none⟩) (nthG U k).key.length kd2) ∧ w'.cell? ⟨w4.heap.size + 1, 2, none⟩ = some (.int .i64 now) ∧ w'.cell? ⟨w4.heap.size + 1, 3, none⟩ = some (.slice (some ⟨M2, 0, none⟩) rs2.length c2)) := fun w' h => ⟨h.cell 0, h.cell 1, h.cell 2, h.cell 3⟩
      refine wp_region_held_drew (S := fun w' => w'.cell? ⟨w4.heap.size + 1, 0, none⟩ = some (.int .i64 (nthG U k).n) ∧ w'.cell? ⟨w4.heap.size + 1, 1, none⟩ = some (.slice (some ⟨K2, 0, none⟩) (nthG U k).key.length kd2) ∧ w'.cell? ⟨w4.heap.size + 1, 2, none⟩ = some (.int .i64 now) ∧ w'.cell? ⟨w4.heap.size + 1, 3, none⟩ = some (.slice (some ⟨M2, 0, none⟩) rs2.length c2)) (by kernel_rfl) (HS9.out _ (BB6.out).drew) (fun hHeld => ?_)
      obtain ⟨yd, hyd⟩ : ∃ yd, yd = y6.drew := ⟨_, rfl⟩
      rw [← hyd] at hHeld ⊢
      have BR9 : Hid (Blk yd w.heap.size #[.int .i64 0, .slice none 0 0, .int .i64 0, .slice none 0 0] 37) := by rw [hyd]; exact (BR6.out).drew
      have BB9d : Hid (Blk yd (w4.heap.size + 1) #[.int .i64 (nthG U k).n, .slice (some ⟨K2, 0, none⟩) (nthG U k).key.length kd2, .int .i64 now, .slice (some ⟨M2, 0, none⟩) rs2.length c2] 37) := by rw [hyd]; exact (BB6.out).drew
      have HFd : Hid (FlA (w.heap.size + 1) yd U k now M c (us.set k y) K2 M2 c2 rs2) := by rw [hyd]; exact (HF9.out).grow (Below.refl _ _).drew
      have HBd : Hid (Below w.heap.size w yd) := by rw [hyd]; exact (HB6.out).drew
      clear hyd
      refine tk 0 ⟨some 49, .move (.tmp 9), 24, "l12_groups.go:69", #[], none⟩ hHeld ?_
      try go_frame
      refine tk 1 ⟨some 50, .load 37 (.tmp 12), 37, "l12_groups.go:69", #[⟨2, .gcOnly .lateStores⟩], none⟩ hHeld ?_
      try go_frame
      refine tk 2 ⟨some 6, .assign (.tmp 49), 24, "l12_groups.go:69", #[⟨0, .data⟩, ⟨0, .phase⟩, ⟨1, .textOnly .lateStores⟩], none⟩ hHeld ?_
      try go_frame
      refine rd1 3 ⟨none, .store 37 (.tmp 7) (.tmp 50), 0, "l12_groups.go:69", #[⟨1, .data⟩, ⟨2, .chain⟩, ⟨0, .phase⟩, ⟨1, .phase⟩, ⟨2, .phase⟩], none⟩ (fun K hK => ?_)
      have r0 := BR9.out.cell 0
      have fr0 := BR9.out.frozen 0
      have r1 := BR9.out.cell 1
      have fr1 := BR9.out.frozen 1
      have r2 := BR9.out.cell 2
      have fr2 := BR9.out.frozen 2
      have r3 := BR9.out.cell 3
      have fr3 := BR9.out.frozen 3
      simp at r0 r1 r2 r3
      go_simp
      clear hHeld
      refine hK.out _ _ (HS9.out _ ((((BB9d.out.set_other (p := ⟨w.heap.size, 0, none⟩) (by show w.heap.size ≠ w4.heap.size + 1; omega) (.int .i64 (nthG U k).n)).set_other (p := ⟨w.heap.size, 1, none⟩) (by show w.heap.size ≠ w4.heap.size + 1; omega) (.slice (some ⟨K2, 0, none⟩) (nthG U k).key.length kd2)).set_other (p := ⟨w.heap.size, 2, none⟩) (by show w.heap.size ≠ w4.heap.size + 1; omega) (.int .i64 now)).set_other (p := ⟨w.heap.size, 3, none⟩) (by show w.heap.size ≠ w4.heap.size + 1; omega) (.slice (some ⟨M2, 0, none⟩) rs2.length c2))) (fun hHeld => ?_)
      clear hK K
      try go_frame
      clear r0 fr0 r1 fr1 r2 fr2 r3 fr3
      refine tk 4 ⟨some 8, .assign (.const (.bool true)), 4, "l12_groups.go:69", #[⟨3, .chain⟩, ⟨0, .phase⟩, ⟨1, .phase⟩, ⟨2, .phase⟩, ⟨3, .phase⟩], none⟩ hHeld ?_
      try go_frame
      refine wpAnyH_done (by kernel_rfl) ?_ _
      clear hHeld
      go_wp2_with fail
      have hR : Blk _ w.heap.size #[.int .i64 (nthG U k).n, .slice (some ⟨K2, 0, none⟩) (nthG U k).key.length kd2, .int .i64 now, .slice (some ⟨M2, 0, none⟩) rs2.length c2] 37 := ((((BR9.out.set 0 (.int .i64 (nthG U k).n)).set 1 (.slice (some ⟨K2, 0, none⟩) (nthG U k).key.length kd2)).set 2 (.int .i64 now)).set 3 (.slice (some ⟨M2, 0, none⟩) rs2.length c2))
      have s0 := hR.cell 0
      have s1 := hR.cell 1
      have s2 := hR.cell 2
      have s3 := hR.cell 3
      have hfin := ((((HFd.out.far BR9.out (by decide) (by decide) (by decide) 0 (.int .i64 (nthG U k).n)).far (BR9.out.set 0 (.int .i64 (nthG U k).n)) (by decide) (by decide) (by decide) 1 (.slice (some ⟨K2, 0, none⟩) (nthG U k).key.length kd2)).far ((BR9.out.set 0 (.int .i64 (nthG U k).n)).set 1 (.slice (some ⟨K2, 0, none⟩) (nthG U k).key.length kd2)) (by decide) (by decide) (by decide) 2 (.int .i64 now)).far (((BR9.out.set 0 (.int .i64 (nthG U k).n)).set 1 (.slice (some ⟨K2, 0, none⟩) (nthG U k).key.length kd2)).set 2 (.int .i64 now)) (by decide) (by decide) (by decide) 3 (.slice (some ⟨M2, 0, none⟩) rs2.length c2))
      refine bodyPost_ret (v := .tuple #[.slice (some ⟨M, 0, none⟩) us.length c, .agg #[.int .i64 (nthG U k).n, .slice (some ⟨K2, 0, none⟩) (nthG U k).key.length kd2, .int .i64 now, .slice (some ⟨M2, 0, none⟩) rs2.length c2], .bool true]) (by simp [results, Tryz.results10, go_sem, s0, s1, s2, s3]) rfl ?_
      exact ⟨.inr ⟨k, HE.out.1, HE.out.2, M, c, (us.set k y), K2, kd2, M2, c2, rs2, by rw [HFL.out.2.2], hfin.down (by omega)⟩, (set_low (set_low (set_low (set_low HBd.out (M := w.heap.size) (Nat.le_refl _) 0 (.int .i64 (nthG U k).n)) (M := w.heap.size) (Nat.le_refl _) 1 (.slice (some ⟨K2, 0, none⟩) (nthG U k).key.length kd2)) (M := w.heap.size) (Nat.le_refl _) 2 (.int .i64 now)) (M := w.heap.size) (Nat.le_refl _) 3 (.slice (some ⟨M2, 0, none⟩) rs2.length c2))⟩
end Go.Proofs.YtgncimlojbnbfaaGreat.GpF
