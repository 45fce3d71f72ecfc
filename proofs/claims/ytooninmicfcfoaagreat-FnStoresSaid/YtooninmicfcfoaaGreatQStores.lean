/-
  PROVED: whatever the code, the law laws.FnStores returns true and leaves the code as it was: in a drawn store that is right what was put is found, in whatever part, all are listed, each once, in order, and there are as many as there are labels. No condition.
-/
import Derived.Test.YtooninmicfcfoaaGreatRows
import Derived.WalkKit
import Derived.ProofKit
import Derived.OpenShut
import Derived.ShutString
import Derived.ChangeOld
import Derived.Below
import Derived.WalkLawsBesides
import Derived.WalkSpells
import Derived.Test.YtooninmicfcfoaaGreatQDrwW
import Derived.Deep.RegionHeld3
set_option linter.unusedVariables false
namespace Go.Proofs.YtooninmicfcfoaaGreat.FnStores
open Go.ChangeShapes Go.WideShapes Go.ChangeAt Go.RowKit
open Go.ChangeMaps (open_string shut_string)

open Labs LabS Draw LawB Over Blk Alms AlmS Rws DrawC DrawE Sts StsF StsP StsK StsA Rgt DrwT DrwV DrwW
open AlmM (implMerge_any startB)
open SrtP (sortP sort_perm)

theorem fine_max {x : PAl} (h : Fine x) : x.l.length ≤ maxLen := by have := h.2; unfold maxLen; omega
theorem drawR (a : Option Addr) (len cap : Nat) (w : World) (hl : len ≤ maxLen) (hb : Bytes w a len w.heap.size) :
    Calls Tryz.prog 29 #[.slice a len cap] w fun r w' => (∃ (M c : Nat) (S : List PPt) (g c2 : Nat) (x : PAl), r = .returned (.tuple #[.slice (some ⟨M, 0, none⟩) S.length c, .agg #[.slice (some ⟨g, 0, none⟩) x.l.length c2, .int .i64 x.s, .int .i64 x.e, .string x.n]]) ∧ St 7 w' (some ⟨M, 0, none⟩) S ∧ DAl w' g x ∧ okA x = true) ∧ Below w.heap.size w w' :=
  (drawStore_any a len cap w hl hb).mono fun r w' h => by
    obtain ⟨⟨M, c, ps, g, c2, x, he, hp, hg, ho, hf, hk⟩, hb⟩ := h
    exact ⟨⟨M, c, pts ps, g, c2, x, by rw [pts_len]; exact he, ⟨hp.rd, hg, by omega⟩, ⟨ho.reads, hf⟩, hk⟩, hb⟩
set_option maxRecDepth 100000 in
set_option maxHeartbeats 40000000 in
theorem core (a : Option Addr) (len cap : Nat) (w : World) (hl : len ≤ maxLen) (hb : Bytes w a len w.heap.size) :
    Calls Tryz.prog 4 #[.slice a len cap] w fun e w' => e = .returned (.bool true) ∧ Below w.heap.size w w' := by
  have HB : Hid (Bytes w a len w.heap.size) := hb
  have HL : Hid (len ≤ maxLen) := hl
  clear hb hl
  by_cases hbig : (1048576 : Int) < (len : Int)
  · have HC : Hid (Calls Tryz.prog 7 #[.slice a len cap] w fun e w' => e = .returned (.bool true) ∧ w' = w) := (big_any a len cap w HL.out).mono fun e w' h => ⟨h.1.trans (retB (decide_eq_true hbig)), h.2⟩
    go_enter Tryz.func4, Tryz.ntmps4
    go_wp2_with fail
    refine HC.out.mono ?_
    rintro e w1 ⟨rfl, rfl⟩
    go_wp2
    go_ret
    exact ⟨rfl, Below.refl _ _⟩
  have HC : Hid (Calls Tryz.prog 7 #[.slice a len cap] w fun e w' => e = .returned (.bool false) ∧ w' = w) := (big_any a len cap w HL.out).mono fun e w' h => ⟨h.1.trans (retB (decide_eq_false hbig)), h.2⟩
  go_enter Tryz.func4, Tryz.ntmps4
  go_wp2_with fail
  refine HC.out.mono ?_
  rintro e wq ⟨rfl, hw⟩
  obtain rfl := hw.symm
  clear HC hw
  have B_z0 : Hid (Below w.heap.size w w) := Below.refl _ _
  go_upto_region 3 with fail
  go_wp2_with fail
  refine (drawR a len cap _ HL.out HB.out).mono ?_
  rintro e w1 ⟨⟨Ms, cs, S, ga, ca, x, rfl, hP, hx, hox⟩, hb⟩
  have FX : Hid (Fine x ∧ okA x = true ∧ Gd 7 S) := ⟨hx.2, hox, hP.2.1⟩
  obtain ⟨Q, hQ⟩ : ∃ Q, putS S x = Q := ⟨_, rfl⟩
  obtain ⟨nu, hnu⟩ : ∃ nu, freshS S x = nu := ⟨_, rfl⟩
  have EQ : Hid (putS S x = Q ∧ freshS S x = nu) := ⟨hQ, hnu⟩
  have FQ : Hid (Gd 8 Q) := by rw [← hQ]; exact hP.2.1.put (by omega) hox hx.2
  obtain ⟨P, hPl⟩ : ∃ P, sortP (allT Q) = P := ⟨_, rfl⟩
  have EP : Hid (sortP (allT Q) = P) := hPl
  have FP : Hid (P.length = cntT Q ∧ (∀ y ∈ P, Fine y ∧ findS Q y.l = some y) ∧ P.Pairwise fun a b => LabL.slB a.l b.l = true) := all_facts FQ.out hPl
  clear hQ hnu hox hPl
  have NDS : Hid (St 7 w1 (some ⟨Ms, 0, none⟩) S) := hP
  have NDX : Hid (DAl w1 ga x) := hx
  have B_w1 : Hid (Below w.heap.size w w1) := hb
  clear B_z0
  have DS_w1 : Hid (St 7 w1 (some ⟨Ms, 0, none⟩) S) := NDS.out
  clear NDS
  have DX_w1 : Hid (DAl w1 ga x) := NDX.out
  clear NDX
  clear hb
  go_upto_region 4 with fail
  generalize hz : w1.alloc (.cells #[.slice (some ⟨ga, 0, none⟩) x.l.length ca, .int .i64 x.s, .int .i64 x.e, .string x.n] 29) = z1
  have hbz : Below w1.heap.size w1 z1 := by rw [← hz]; exact Go.Joins.below_alloc1 w1 _
  have bA_z1 : Hid (Blk z1 w1.heap.size #[.slice (some ⟨ga, 0, none⟩) x.l.length ca, .int .i64 x.s, .int .i64 x.e, .string x.n] 29) := by rw [← hz]; exact (Blk.new _ _ _)
  clear hz
  have B_z1 : Hid (Below w.heap.size w z1) := grow_on B_w1.out hbz
  have DS_z1 : Hid (St 7 z1 (some ⟨Ms, 0, none⟩) S) := DS_w1.out.below hbz
  have DX_z1 : Hid (DAl z1 ga x) := DX_w1.out.below hbz
  clear B_w1 DS_w1 DX_w1
  clear hbz
  have cbA0 : z1.cell? ⟨w1.heap.size, 0, none⟩ = some (.slice (some ⟨ga, 0, none⟩) x.l.length ca) := bA_z1.out.cell 0
  have cbA1 : z1.cell? ⟨w1.heap.size, 1, none⟩ = some (.int .i64 x.s) := bA_z1.out.cell 1
  have cbA2 : z1.cell? ⟨w1.heap.size, 2, none⟩ = some (.int .i64 x.e) := bA_z1.out.cell 2
  have cbA3 : z1.cell? ⟨w1.heap.size, 3, none⟩ = some (.string x.n) := bA_z1.out.cell 3
  go_wp2_with fail
  refine (putR _ cs S ga ca x _ DS_z1.out (by omega) DX_z1.out.1 FX.out.1 FX.out.2.1 EQ.out.1 EQ.out.2).mono ?_
  rintro e w2 ⟨⟨Mx, cx, rfl, hr⟩, hb⟩
  clear cbA0 cbA1 cbA2 cbA3
  have NRX : Hid (St 8 w2 (some ⟨Mx, 0, none⟩) Q) := hr
  have B_w2 : Hid (Below w.heap.size w w2) := grow_on B_z1.out hb
  have DS_w2 : Hid (St 7 w2 (some ⟨Ms, 0, none⟩) S) := DS_z1.out.below hb
  have DX_w2 : Hid (DAl w2 ga x) := DX_z1.out.below hb
  have bA_w2 : Hid (Blk w2 w1.heap.size #[.slice (some ⟨ga, 0, none⟩) x.l.length ca, .int .i64 x.s, .int .i64 x.e, .string x.n] 29) := bA_z1.out.grow hb
  clear B_z1 DS_z1 DX_z1 bA_z1
  have RX_w2 : Hid (St 8 w2 (some ⟨Mx, 0, none⟩) Q) := NRX.out
  clear NRX
  clear hb
  go_upto_region 5 with fail
  rcases find_putS (S := S) x (by have := FX.out.2.2.rst.len; omega) with ⟨h1, h2, h3⟩ | ⟨y, h1, h2, h3⟩
  ·
    have en : nu = true := EQ.out.2.symm.trans h2
    subst en
    have EF : Hid (findSD S x.l = zeroA ∧ (findS S x.l).isSome = false ∧ findSD Q x.l = x ∧ (findS Q x.l).isSome = true) := by
      have h4 : findS Q x.l = some x := by rw [← EQ.out.1]; exact h3
      exact ⟨by unfold findSD; rw [h1]; rfl, by rw [h1]; rfl, by unfold findSD; rw [h4]; rfl, by rw [h4]; rfl⟩
    clear h1 h2 h3
    obtain ⟨yo, hyo⟩ : ∃ yo, zeroA = yo := ⟨_, rfl⟩
    rw [hyo] at EF
    clear hyo
    have cbA0 : w2.cell? ⟨w1.heap.size, 0, none⟩ = some (.slice (some ⟨ga, 0, none⟩) x.l.length ca) := bA_w2.out.cell 0
    have cbA1 : w2.cell? ⟨w1.heap.size, 1, none⟩ = some (.int .i64 x.s) := bA_w2.out.cell 1
    have cbA2 : w2.cell? ⟨w1.heap.size, 2, none⟩ = some (.int .i64 x.e) := bA_w2.out.cell 2
    have cbA3 : w2.cell? ⟨w1.heap.size, 3, none⟩ = some (.string x.n) := bA_w2.out.cell 3
    go_wp2_with fail
    refine (findR _ _ cs ca S x.l _ DS_w2.out DX_w2.out.1 FX.out.1.2 FX.out.1.1.fits EF.out.1 EF.out.2.1).mono ?_
    rintro e w3 ⟨⟨bo, co', rfl, hr⟩, hb⟩
    clear cbA0 cbA1 cbA2 cbA3
    clear hr
    have B_w3 : Hid (Below w.heap.size w w3) := grow_on B_w2.out hb
    have DS_w3 : Hid (St 7 w3 (some ⟨Ms, 0, none⟩) S) := DS_w2.out.below hb
    have DX_w3 : Hid (DAl w3 ga x) := DX_w2.out.below hb
    have bA_w3 : Hid (Blk w3 w1.heap.size #[.slice (some ⟨ga, 0, none⟩) x.l.length ca, .int .i64 x.s, .int .i64 x.e, .string x.n] 29) := bA_w2.out.grow hb
    have RX_w3 : Hid (St 8 w3 (some ⟨Mx, 0, none⟩) Q) := RX_w2.out.below hb
    clear B_w2 DS_w2 DX_w2 bA_w2 RX_w2
    clear hb
    go_upto_region 6 with fail
    generalize hz : w3.alloc (.cells #[.slice bo yo.l.length co', .int .i64 yo.s, .int .i64 yo.e, .string yo.n] 29) = z3
    have hbz : Below w3.heap.size w3 z3 := by rw [← hz]; exact Go.Joins.below_alloc1 w3 _
    have bOld_z3 : Hid (Blk z3 w3.heap.size #[.slice bo yo.l.length co', .int .i64 yo.s, .int .i64 yo.e, .string yo.n] 29) := by rw [← hz]; exact (Blk.new _ _ _)
    clear hz
    have B_z3 : Hid (Below w.heap.size w z3) := grow_on B_w3.out hbz
    have DS_z3 : Hid (St 7 z3 (some ⟨Ms, 0, none⟩) S) := DS_w3.out.below hbz
    have DX_z3 : Hid (DAl z3 ga x) := DX_w3.out.below hbz
    have bA_z3 : Hid (Blk z3 w1.heap.size #[.slice (some ⟨ga, 0, none⟩) x.l.length ca, .int .i64 x.s, .int .i64 x.e, .string x.n] 29) := bA_w3.out.grow hbz
    have RX_z3 : Hid (St 8 z3 (some ⟨Mx, 0, none⟩) Q) := RX_w3.out.below hbz
    clear B_w3 DS_w3 DX_w3 bA_w3 RX_w3
    clear hbz
    have cbA0 : z3.cell? ⟨w1.heap.size, 0, none⟩ = some (.slice (some ⟨ga, 0, none⟩) x.l.length ca) := bA_z3.out.cell 0
    have cbA1 : z3.cell? ⟨w1.heap.size, 1, none⟩ = some (.int .i64 x.s) := bA_z3.out.cell 1
    have cbA2 : z3.cell? ⟨w1.heap.size, 2, none⟩ = some (.int .i64 x.e) := bA_z3.out.cell 2
    have cbA3 : z3.cell? ⟨w1.heap.size, 3, none⟩ = some (.string x.n) := bA_z3.out.cell 3
    go_wp2_with fail
    refine ((findR _ _ cx ca Q x.l _ RX_z3.out DX_z3.out.1 FX.out.1.2 FX.out.1.1.fits EF.out.2.2.1 EF.out.2.2.2)).mono ?_
    rintro e w4 ⟨⟨bz, cz, rfl, hr⟩, hb⟩
    clear cbA0 cbA1 cbA2 cbA3
    have NRZ : Hid (Reads w4 bz x.l) := hr
    have B_w4 : Hid (Below w.heap.size w w4) := grow_on B_z3.out hb
    have DS_w4 : Hid (St 7 w4 (some ⟨Ms, 0, none⟩) S) := DS_z3.out.below hb
    have DX_w4 : Hid (DAl w4 ga x) := DX_z3.out.below hb
    have bA_w4 : Hid (Blk w4 w1.heap.size #[.slice (some ⟨ga, 0, none⟩) x.l.length ca, .int .i64 x.s, .int .i64 x.e, .string x.n] 29) := bA_z3.out.grow hb
    have RX_w4 : Hid (St 8 w4 (some ⟨Mx, 0, none⟩) Q) := RX_z3.out.below hb
    have bOld_w4 : Hid (Blk w4 w3.heap.size #[.slice bo yo.l.length co', .int .i64 yo.s, .int .i64 yo.e, .string yo.n] 29) := bOld_z3.out.grow hb
    clear B_z3 DS_z3 DX_z3 bA_z3 RX_z3 bOld_z3
    have RZ_w4 : Hid (Reads w4 bz x.l) := NRZ.out
    clear NRZ
    clear hb
    go_upto_region 7 with fail
    generalize hz : w4.alloc (.cells #[.slice bz x.l.length cz, .int .i64 x.s, .int .i64 x.e, .string x.n] 29) = z4
    have hbz : Below w4.heap.size w4 z4 := by rw [← hz]; exact Go.Joins.below_alloc1 w4 _
    have bZ_z4 : Hid (Blk z4 w4.heap.size #[.slice bz x.l.length cz, .int .i64 x.s, .int .i64 x.e, .string x.n] 29) := by rw [← hz]; exact (Blk.new _ _ _)
    clear hz
    have B_z4 : Hid (Below w.heap.size w z4) := grow_on B_w4.out hbz
    have DS_z4 : Hid (St 7 z4 (some ⟨Ms, 0, none⟩) S) := DS_w4.out.below hbz
    have DX_z4 : Hid (DAl z4 ga x) := DX_w4.out.below hbz
    have bA_z4 : Hid (Blk z4 w1.heap.size #[.slice (some ⟨ga, 0, none⟩) x.l.length ca, .int .i64 x.s, .int .i64 x.e, .string x.n] 29) := bA_w4.out.grow hbz
    have RX_z4 : Hid (St 8 z4 (some ⟨Mx, 0, none⟩) Q) := RX_w4.out.below hbz
    have bOld_z4 : Hid (Blk z4 w3.heap.size #[.slice bo yo.l.length co', .int .i64 yo.s, .int .i64 yo.e, .string yo.n] 29) := bOld_w4.out.grow hbz
    have RZ_z4 : Hid (Reads z4 bz x.l) := RZ_w4.out.below hbz
    clear B_w4 DS_w4 DX_w4 bA_w4 RX_w4 bOld_w4 RZ_w4
    clear hbz
    go_wp2_with fail
    refine (allR _ cx Q _ RX_z4.out EP.out).mono ?_
    rintro e w5 ⟨⟨Ml, cl, rfl, hr⟩, hb⟩
    have NRL : Hid (RdN w5 (some ⟨Ml, 0, none⟩) P) := hr
    have B_w5 : Hid (Below w.heap.size w w5) := grow_on B_z4.out hb
    have DS_w5 : Hid (St 7 w5 (some ⟨Ms, 0, none⟩) S) := DS_z4.out.below hb
    have DX_w5 : Hid (DAl w5 ga x) := DX_z4.out.below hb
    have bA_w5 : Hid (Blk w5 w1.heap.size #[.slice (some ⟨ga, 0, none⟩) x.l.length ca, .int .i64 x.s, .int .i64 x.e, .string x.n] 29) := bA_z4.out.grow hb
    have RX_w5 : Hid (St 8 w5 (some ⟨Mx, 0, none⟩) Q) := RX_z4.out.below hb
    have bOld_w5 : Hid (Blk w5 w3.heap.size #[.slice bo yo.l.length co', .int .i64 yo.s, .int .i64 yo.e, .string yo.n] 29) := bOld_z4.out.grow hb
    have RZ_w5 : Hid (Reads w5 bz x.l) := RZ_z4.out.below hb
    have bZ_w5 : Hid (Blk w5 w4.heap.size #[.slice bz x.l.length cz, .int .i64 x.s, .int .i64 x.e, .string x.n] 29) := bZ_z4.out.grow hb
    clear B_z4 DS_z4 DX_z4 bA_z4 RX_z4 bOld_z4 RZ_z4 bZ_z4
    have RL_w5 : Hid (RdN w5 (some ⟨Ml, 0, none⟩) P) := NRL.out
    clear NRL
    clear hb
    go_upto_region 8 with fail
    have HS : Hid (∀ w', Below w5.heap.size w5 w' → Below w5.heap.size w5 w' ∧ w'.cell? ⟨w1.heap.size, 0, none⟩ = some (.slice (some ⟨ga, 0, none⟩) x.l.length ca) ∧ w'.cell? ⟨w1.heap.size, 1, none⟩ = some (.int .i64 x.s) ∧ w'.cell? ⟨w1.heap.size, 2, none⟩ = some (.int .i64 x.e) ∧ w'.cell? ⟨w1.heap.size, 3, none⟩ = some (.string x.n) ∧ w'.cell? ⟨w3.heap.size, 0, none⟩ = some (.slice bo yo.l.length co') ∧ w'.cell? ⟨w3.heap.size, 1, none⟩ = some (.int .i64 yo.s) ∧ w'.cell? ⟨w3.heap.size, 2, none⟩ = some (.int .i64 yo.e) ∧ w'.cell? ⟨w3.heap.size, 3, none⟩ = some (.string yo.n) ∧ w'.cell? ⟨w4.heap.size, 0, none⟩ = some (.slice bz x.l.length cz) ∧ w'.cell? ⟨w4.heap.size, 1, none⟩ = some (.int .i64 x.s) ∧ w'.cell? ⟨w4.heap.size, 2, none⟩ = some (.int .i64 x.e) ∧ w'.cell? ⟨w4.heap.size, 3, none⟩ = some (.string x.n)) := fun w' h => ⟨h, (bA_w5.out.grow h).cell 0, (bA_w5.out.grow h).cell 1, (bA_w5.out.grow h).cell 2, (bA_w5.out.grow h).cell 3, (bOld_w5.out.grow h).cell 0, (bOld_w5.out.grow h).cell 1, (bOld_w5.out.grow h).cell 2, (bOld_w5.out.grow h).cell 3, (bZ_w5.out.grow h).cell 0, (bZ_w5.out.grow h).cell 1, (bZ_w5.out.grow h).cell 2, (bZ_w5.out.grow h).cell 3⟩
    have kz : Below w5.heap.size w5 w5.drew := (Below.refl _ _).drew
    have O1 : Hid (∀ (u : World), Below w5.heap.size w5 u → Calls Tryz.prog 33 #[.slice (some ⟨Ms, 0, none⟩) S.length cs] u fun r w' => r = .returned (.bool true) ∧ Below u.heap.size u w') := fun u hu => storeR _ cs S u (DS_w5.out.below hu)
    have O2 : Hid (∀ (u : World), Below w5.heap.size w5 u → Calls Tryz.prog 33 #[.slice (some ⟨Mx, 0, none⟩) Q.length cx] u fun r w' => r = .returned (.bool true) ∧ Below u.heap.size u w') := fun u hu => storeR _ cx Q u (RX_w5.out.below hu)
    have SMX : Hid (∀ (y : World), Below w5.heap.size w5 y → Calls Tryz.prog 20 #[.agg #[.slice bz x.l.length cz, .int .i64 x.s, .int .i64 x.e, .string x.n], .agg #[.slice (some ⟨ga, 0, none⟩) x.l.length ca, .int .i64 x.s, .int .i64 x.e, .string x.n]] y fun r w' => r = .returned (.bool true) ∧ Below y.heap.size y w') := fun y hy => (implSameA_any _ _ _ _ x.l x.l _ _ _ _ _ _ y (RZ_w5.out.below hy) (DX_w5.out.1.below hy) (fine_max FX.out.1) (fine_max FX.out.1)).mono fun e w' h => ⟨h.1.trans (retB (Alm.same_self _ _ _ _)), h.2⟩
    refine wp_region_held_drew (S := fun w' => Below w5.heap.size w5 w' ∧ w'.cell? ⟨w1.heap.size, 0, none⟩ = some (.slice (some ⟨ga, 0, none⟩) x.l.length ca) ∧ w'.cell? ⟨w1.heap.size, 1, none⟩ = some (.int .i64 x.s) ∧ w'.cell? ⟨w1.heap.size, 2, none⟩ = some (.int .i64 x.e) ∧ w'.cell? ⟨w1.heap.size, 3, none⟩ = some (.string x.n) ∧ w'.cell? ⟨w3.heap.size, 0, none⟩ = some (.slice bo yo.l.length co') ∧ w'.cell? ⟨w3.heap.size, 1, none⟩ = some (.int .i64 yo.s) ∧ w'.cell? ⟨w3.heap.size, 2, none⟩ = some (.int .i64 yo.e) ∧ w'.cell? ⟨w3.heap.size, 3, none⟩ = some (.string yo.n) ∧ w'.cell? ⟨w4.heap.size, 0, none⟩ = some (.slice bz x.l.length cz) ∧ w'.cell? ⟨w4.heap.size, 1, none⟩ = some (.int .i64 x.s) ∧ w'.cell? ⟨w4.heap.size, 2, none⟩ = some (.int .i64 x.e) ∧ w'.cell? ⟨w4.heap.size, 3, none⟩ = some (.string x.n)) (by kernel_rfl) (HS.out _ kz) (fun hHeld => ?_)
    refine wpAnyH_take (i := 0) (oi := { dst := some 45, op := Op.move (Operand.tmp 3), type := 54, pos := "laws.go:379", after := #[], guard := none }) (v := ?vmr0) rfl (by kernel_rfl) (by kernel_rfl) (by kernel_rfl) (fun _ _ _ h => h) (Or.inl ⟨by rfl, ?hymr0⟩) hHeld ?_
    case hymr0 => (intro w hSw; (try dsimp only at hSw); go_simp <;> with_reducible rfl)
    try simp only [Act.put, List.setIfInBounds_toArray, List.set_cons_zero, List.set_cons_succ]
    refine wpAnyH_ready (rs := [1]) (by kernel_rfl) (by simp) ?_
    refine AllReadyH.cons (o := { dst := some 46, op := Op.call { callee := Callee.value (Operand.func 33), args := #[Operand.tmp 45], argTypes := #[54] }, type := 4, pos := "laws.go:379", after := #[{ on := 0, ground := Ground.data }], guard := none }) rfl (fun K hK => ?_) AllReadyH.nil
    go_simp
    refine (O1.out _ hHeld.1).mono ?_
    rintro r wvmr1 ⟨rfl, hy⟩
    have hz : Below w5.heap.size w5 wvmr1 := grow_on hHeld.1 hy
    clear hHeld hy
    refine hK.out _ _ (HS.out _ hz) (fun hHeld => ?_)
    clear hK K hz
    try simp only [Act.put, List.setIfInBounds_toArray, List.set_cons_zero, List.set_cons_succ]
    refine wpAnyH_take (i := 2) (oi := { dst := some 47, op := Op.unOp UnOp.not 4 (Operand.tmp 46), type := 4, pos := "laws.go:379", after := #[{ on := 1, ground := Ground.data }], guard := none }) (v := ?vmr2) rfl (by kernel_rfl) (by kernel_rfl) (by kernel_rfl) (fun _ _ _ h => h) (Or.inl ⟨by rfl, ?hymr2⟩) hHeld ?_
    case hymr2 => (intro w hSw; (try dsimp only at hSw); go_simp <;> with_reducible rfl)
    try simp only [Act.put, List.setIfInBounds_toArray, List.set_cons_zero, List.set_cons_succ]
    refine wpAnyH_take (i := 3) (oi := { dst := some 48, op := Op.move (Operand.tmp 47), type := 4, pos := "laws.go:379", after := #[{ on := 2, ground := Ground.data }, { on := 1, ground := Ground.chain }], guard := none }) (v := ?vmr3) rfl (by kernel_rfl) (by kernel_rfl) (by kernel_rfl) (fun _ _ _ h => h) (Or.inl ⟨by rfl, ?hymr3⟩) hHeld ?_
    case hymr3 => (intro w hSw; (try dsimp only at hSw); go_simp <;> with_reducible rfl)
    try simp only [Act.put, List.setIfInBounds_toArray, List.set_cons_zero, List.set_cons_succ]
    refine wpAnyH_take (i := 4) (oi := { dst := some 49, op := Op.move (Operand.tmp 5), type := 54, pos := "laws.go:379", after := #[{ on := 3, ground := Ground.guard }], guard := some (3, false) }) (v := ?vmr4) rfl (by kernel_rfl) (by kernel_rfl) (by kernel_rfl) (fun _ _ _ h => h) (Or.inl ⟨by rfl, ?hymr4⟩) hHeld ?_
    case hymr4 => (intro w hSw; (try dsimp only at hSw); go_simp <;> with_reducible rfl)
    try simp only [Act.put, List.setIfInBounds_toArray, List.set_cons_zero, List.set_cons_succ]
    refine wpAnyH_ready (rs := [5]) (by kernel_rfl) (by simp) ?_
    refine AllReadyH.cons (o := { dst := some 50, op := Op.call { callee := Callee.value (Operand.func 33), args := #[Operand.tmp 49], argTypes := #[54] }, type := 4, pos := "laws.go:379", after := #[{ on := 4, ground := Ground.data }, { on := 3, ground := Ground.chain }, { on := 3, ground := Ground.guard }], guard := some (3, false) }) rfl (fun K hK => ?_) AllReadyH.nil
    go_simp
    refine (O2.out _ hHeld.1).mono ?_
    rintro r wvmr5 ⟨rfl, hy⟩
    have hz : Below w5.heap.size w5 wvmr5 := grow_on hHeld.1 hy
    clear hHeld hy
    refine hK.out _ _ (HS.out _ hz) (fun hHeld => ?_)
    clear hK K hz
    try simp only [Act.put, List.setIfInBounds_toArray, List.set_cons_zero, List.set_cons_succ]
    refine wpAnyH_take (i := 6) (oi := { dst := some 51, op := Op.unOp UnOp.not 4 (Operand.tmp 50), type := 4, pos := "laws.go:379", after := #[{ on := 5, ground := Ground.data }, { on := 3, ground := Ground.guard }], guard := some (3, false) }) (v := ?vmr6) rfl (by kernel_rfl) (by kernel_rfl) (by kernel_rfl) (fun _ _ _ h => h) (Or.inl ⟨by rfl, ?hymr6⟩) hHeld ?_
    case hymr6 => (intro w hSw; (try dsimp only at hSw); go_simp <;> with_reducible rfl)
    try simp only [Act.put, List.setIfInBounds_toArray, List.set_cons_zero, List.set_cons_succ]
    refine wpAnyH_take (i := 7) (oi := { dst := some 52, op := Op.pick (Operand.tmp 48) (Operand.const (Value.bool true)) (Operand.tmp 51), type := 4, pos := "laws.go:379", after := #[{ on := 3, ground := Ground.data }, { on := 6, ground := Ground.data }], guard := none }) (v := ?vmr7) rfl (by kernel_rfl) (by kernel_rfl) (by kernel_rfl) (fun _ _ _ h => h) (Or.inl ⟨by rfl, ?hymr7⟩) hHeld ?_
    case hymr7 => (intro w hSw; (try dsimp only at hSw); go_simp <;> with_reducible rfl)
    try simp only [Act.put, List.setIfInBounds_toArray, List.set_cons_zero, List.set_cons_succ]
    refine wpAnyH_take (i := 8) (oi := { dst := some 53, op := Op.move (Operand.tmp 52), type := 4, pos := "laws.go:379", after := #[{ on := 7, ground := Ground.data }, { on := 5, ground := Ground.chain }], guard := none }) (v := ?vmr8) rfl (by kernel_rfl) (by kernel_rfl) (by kernel_rfl) (fun _ _ _ h => h) (Or.inl ⟨by rfl, ?hymr8⟩) hHeld ?_
    case hymr8 => (intro w hSw; (try dsimp only at hSw); go_simp <;> with_reducible rfl)
    try simp only [Act.put, List.setIfInBounds_toArray, List.set_cons_zero, List.set_cons_succ]
    refine wpAnyH_take (i := 9) (oi := { dst := some 54, op := Op.move (Operand.tmp 6), type := 4, pos := "laws.go:379", after := #[{ on := 8, ground := Ground.guard }], guard := some (8, false) }) (v := ?vmr9) rfl (by kernel_rfl) (by kernel_rfl) (by kernel_rfl) (fun _ _ _ h => h) (Or.inl ⟨by rfl, ?hymr9⟩) hHeld ?_
    case hymr9 => (intro w hSw; (try dsimp only at hSw); go_simp <;> with_reducible rfl)
    try simp only [Act.put, List.setIfInBounds_toArray, List.set_cons_zero, List.set_cons_succ]
    refine wpAnyH_take (i := 10) (oi := { dst := some 55, op := Op.move (Operand.tmp 8), type := 4, pos := "laws.go:379", after := #[{ on := 8, ground := Ground.guard }], guard := some (8, false) }) (v := ?vmr10) rfl (by kernel_rfl) (by kernel_rfl) (by kernel_rfl) (fun _ _ _ h => h) (Or.inl ⟨by rfl, ?hymr10⟩) hHeld ?_
    case hymr10 => (intro w hSw; (try dsimp only at hSw); go_simp <;> with_reducible rfl)
    try simp only [Act.put, List.setIfInBounds_toArray, List.set_cons_zero, List.set_cons_succ]
    refine wpAnyH_take (i := 11) (oi := { dst := some 56, op := Op.binOp BinOp.eql 4 (Operand.tmp 54) (Operand.tmp 55) 4, type := 4, pos := "laws.go:379", after := #[{ on := 9, ground := Ground.data }, { on := 10, ground := Ground.data }, { on := 8, ground := Ground.guard }], guard := some (8, false) }) (v := ?vmr11) rfl (by kernel_rfl) (by kernel_rfl) (by kernel_rfl) (fun _ _ _ h => h) (Or.inl ⟨by rfl, ?hymr11⟩) hHeld ?_
    case hymr11 => (intro w hSw; (try dsimp only at hSw); go_simp <;> with_reducible rfl)
    try simp only [Act.put, List.setIfInBounds_toArray, List.set_cons_zero, List.set_cons_succ]
    refine wpAnyH_take (i := 12) (oi := { dst := some 57, op := Op.pick (Operand.tmp 53) (Operand.const (Value.bool true)) (Operand.tmp 56), type := 4, pos := "laws.go:379", after := #[{ on := 8, ground := Ground.data }, { on := 11, ground := Ground.data }], guard := none }) (v := ?vmr12) rfl (by kernel_rfl) (by kernel_rfl) (by kernel_rfl) (fun _ _ _ h => h) (Or.inl ⟨by rfl, ?hymr12⟩) hHeld ?_
    case hymr12 => (intro w hSw; (try dsimp only at hSw); go_simp <;> with_reducible rfl)
    try simp only [Act.put, List.setIfInBounds_toArray, List.set_cons_zero, List.set_cons_succ]
    refine wpAnyH_take (i := 13) (oi := { dst := some 58, op := Op.move (Operand.tmp 57), type := 4, pos := "laws.go:379", after := #[{ on := 12, ground := Ground.data }, { on := 8, ground := Ground.chain }], guard := none }) (v := ?vmr13) rfl (by kernel_rfl) (by kernel_rfl) (by kernel_rfl) (fun _ _ _ h => h) (Or.inl ⟨by rfl, ?hymr13⟩) hHeld ?_
    case hymr13 => (intro w hSw; (try dsimp only at hSw); go_simp <;> with_reducible rfl)
    try simp only [Act.put, List.setIfInBounds_toArray, List.set_cons_zero, List.set_cons_succ]
    refine wpAnyH_take (i := 14) (oi := { dst := some 59, op := Op.move (Operand.tmp 10), type := 4, pos := "laws.go:379", after := #[{ on := 13, ground := Ground.guard }], guard := some (13, false) }) (v := ?vmr14) rfl (by kernel_rfl) (by kernel_rfl) (by kernel_rfl) (fun _ _ _ h => h) (Or.inl ⟨by rfl, ?hymr14⟩) hHeld ?_
    case hymr14 => (intro w hSw; (try dsimp only at hSw); go_simp <;> with_reducible rfl)
    try simp only [Act.put, List.setIfInBounds_toArray, List.set_cons_zero, List.set_cons_succ]
    refine wpAnyH_take (i := 15) (oi := { dst := some 60, op := Op.unOp UnOp.not 4 (Operand.tmp 59), type := 4, pos := "laws.go:379", after := #[{ on := 14, ground := Ground.data }, { on := 13, ground := Ground.guard }], guard := some (13, false) }) (v := ?vmr15) rfl (by kernel_rfl) (by kernel_rfl) (by kernel_rfl) (fun _ _ _ h => h) (Or.inl ⟨by rfl, ?hymr15⟩) hHeld ?_
    case hymr15 => (intro w hSw; (try dsimp only at hSw); go_simp <;> with_reducible rfl)
    try simp only [Act.put, List.setIfInBounds_toArray, List.set_cons_zero, List.set_cons_succ]
    refine wpAnyH_take (i := 16) (oi := { dst := some 61, op := Op.pick (Operand.tmp 58) (Operand.const (Value.bool true)) (Operand.tmp 60), type := 4, pos := "laws.go:379", after := #[{ on := 13, ground := Ground.data }, { on := 15, ground := Ground.data }], guard := none }) (v := ?vmr16) rfl (by kernel_rfl) (by kernel_rfl) (by kernel_rfl) (fun _ _ _ h => h) (Or.inl ⟨by rfl, ?hymr16⟩) hHeld ?_
    case hymr16 => (intro w hSw; (try dsimp only at hSw); go_simp <;> with_reducible rfl)
    try simp only [Act.put, List.setIfInBounds_toArray, List.set_cons_zero, List.set_cons_succ]
    refine wpAnyH_take (i := 17) (oi := { dst := some 62, op := Op.move (Operand.tmp 61), type := 4, pos := "laws.go:379", after := #[{ on := 16, ground := Ground.data }, { on := 13, ground := Ground.chain }], guard := none }) (v := ?vmr17) rfl (by kernel_rfl) (by kernel_rfl) (by kernel_rfl) (fun _ _ _ h => h) (Or.inl ⟨by rfl, ?hymr17⟩) hHeld ?_
    case hymr17 => (intro w hSw; (try dsimp only at hSw); go_simp <;> with_reducible rfl)
    try simp only [Act.put, List.setIfInBounds_toArray, List.set_cons_zero, List.set_cons_succ]
    refine wpAnyH_take (i := 18) (oi := { dst := some 63, op := Op.move (Operand.tmp 8), type := 4, pos := "laws.go:379", after := #[{ on := 17, ground := Ground.guard }], guard := some (17, false) }) (v := ?vmr18) rfl (by kernel_rfl) (by kernel_rfl) (by kernel_rfl) (fun _ _ _ h => h) (Or.inl ⟨by rfl, ?hymr18⟩) hHeld ?_
    case hymr18 => (intro w hSw; (try dsimp only at hSw); go_simp <;> with_reducible rfl)
    try simp only [Act.put, List.setIfInBounds_toArray, List.set_cons_zero, List.set_cons_succ]
    refine wpAnyH_take (i := 19) (oi := { dst := some 64, op := Op.move (Operand.tmp 63), type := 4, pos := "laws.go:379", after := #[{ on := 18, ground := Ground.data }, { on := 17, ground := Ground.chain }, { on := 17, ground := Ground.guard }], guard := some (17, false) }) (v := ?vmr19) rfl (by kernel_rfl) (by kernel_rfl) (by kernel_rfl) (fun _ _ _ h => h) (Or.inl ⟨by rfl, ?hymr19⟩) hHeld ?_
    case hymr19 => (intro w hSw; (try dsimp only at hSw); go_simp <;> with_reducible rfl)
    try simp only [Act.put, List.setIfInBounds_toArray, List.set_cons_zero, List.set_cons_succ]
    refine wpAnyH_take (i := 20) (oi := { dst := some 65, op := Op.load 29 (Operand.tmp 9), type := 29, pos := "laws.go:379", after := #[{ on := 19, ground := Ground.guard }], guard := some (19, true) }) (v := undef) rfl (by kernel_rfl) (by kernel_rfl) (by kernel_rfl) (fun _ _ _ h => h) (Or.inr ⟨by rfl, rfl⟩) hHeld ?_
    try simp only [Act.put, List.setIfInBounds_toArray, List.set_cons_zero, List.set_cons_succ]
    refine wpAnyH_take (i := 21) (oi := { dst := some 66, op := Op.load 29 (Operand.tmp 7), type := 29, pos := "laws.go:379", after := #[{ on := 19, ground := Ground.guard }], guard := some (19, true) }) (v := undef) rfl (by kernel_rfl) (by kernel_rfl) (by kernel_rfl) (fun _ _ _ h => h) (Or.inr ⟨by rfl, rfl⟩) hHeld ?_
    try simp only [Act.put, List.setIfInBounds_toArray, List.set_cons_zero, List.set_cons_succ]
    refine wpAnyH_take (i := 22) (oi := { dst := some 67, op := Op.load 29 (Operand.tmp 4), type := 29, pos := "laws.go:379", after := #[{ on := 19, ground := Ground.guard }], guard := some (19, true) }) (v := undef) rfl (by kernel_rfl) (by kernel_rfl) (by kernel_rfl) (fun _ _ _ h => h) (Or.inr ⟨by rfl, rfl⟩) hHeld ?_
    try simp only [Act.put, List.setIfInBounds_toArray, List.set_cons_zero, List.set_cons_succ]
    refine wpAnyH_ready (rs := [23]) (by kernel_rfl) (by simp) ?_
    refine AllReadyH.cons (o := { dst := some 68, op := Op.call { callee := Callee.value (Operand.func 25), args := #[Operand.tmp 66, Operand.tmp 67], argTypes := #[29, 29] }, type := 29, pos := "laws.go:379", after := #[{ on := 21, ground := Ground.data }, { on := 22, ground := Ground.data }, { on := 19, ground := Ground.chain }, { on := 19, ground := Ground.guard }], guard := some (19, true) }) rfl (fun K hK => ?_) AllReadyH.nil
    go_simp
    refine hK.out _ _ hHeld (fun hHeld => ?_)
    clear hK K
    try simp only [Act.put, List.setIfInBounds_toArray, List.set_cons_zero, List.set_cons_succ]
    refine wpAnyH_ready (rs := [24]) (by kernel_rfl) (by simp) ?_
    refine AllReadyH.cons (o := { dst := some 69, op := Op.call { callee := Callee.value (Operand.func 20), args := #[Operand.tmp 65, Operand.tmp 68], argTypes := #[29, 29] }, type := 4, pos := "laws.go:379", after := #[{ on := 20, ground := Ground.data }, { on := 23, ground := Ground.data }, { on := 23, ground := Ground.chain }, { on := 19, ground := Ground.guard }], guard := some (19, true) }) rfl (fun K hK => ?_) AllReadyH.nil
    go_simp
    refine hK.out _ _ hHeld (fun hHeld => ?_)
    clear hK K
    try simp only [Act.put, List.setIfInBounds_toArray, List.set_cons_zero, List.set_cons_succ]
    refine wpAnyH_take (i := 25) (oi := { dst := some 70, op := Op.unOp UnOp.not 4 (Operand.tmp 69), type := 4, pos := "laws.go:379", after := #[{ on := 24, ground := Ground.data }, { on := 19, ground := Ground.guard }], guard := some (19, true) }) (v := undef) rfl (by kernel_rfl) (by kernel_rfl) (by kernel_rfl) (fun _ _ _ h => h) (Or.inr ⟨by rfl, rfl⟩) hHeld ?_
    try simp only [Act.put, List.setIfInBounds_toArray, List.set_cons_zero, List.set_cons_succ]
    refine wpAnyH_take (i := 26) (oi := { dst := some 71, op := Op.pick (Operand.tmp 64) (Operand.tmp 70) (Operand.const (Value.bool false)), type := 4, pos := "laws.go:379", after := #[{ on := 19, ground := Ground.data }, { on := 25, ground := Ground.data }, { on := 17, ground := Ground.guard }], guard := some (17, false) }) (v := ?vmr26) rfl (by kernel_rfl) (by kernel_rfl) (by kernel_rfl) (fun _ _ _ h => h) (Or.inl ⟨by rfl, ?hymr26⟩) hHeld ?_
    case hymr26 => (intro w hSw; (try dsimp only at hSw); go_simp <;> with_reducible rfl)
    try simp only [Act.put, List.setIfInBounds_toArray, List.set_cons_zero, List.set_cons_succ]
    refine wpAnyH_take (i := 27) (oi := { dst := some 72, op := Op.pick (Operand.tmp 62) (Operand.const (Value.bool true)) (Operand.tmp 71), type := 4, pos := "laws.go:379", after := #[{ on := 17, ground := Ground.data }, { on := 26, ground := Ground.data }], guard := none }) (v := ?vmr27) rfl (by kernel_rfl) (by kernel_rfl) (by kernel_rfl) (fun _ _ _ h => h) (Or.inl ⟨by rfl, ?hymr27⟩) hHeld ?_
    case hymr27 => (intro w hSw; (try dsimp only at hSw); go_simp <;> with_reducible rfl)
    try simp only [Act.put, List.setIfInBounds_toArray, List.set_cons_zero, List.set_cons_succ]
    refine wpAnyH_take (i := 28) (oi := { dst := some 73, op := Op.move (Operand.tmp 72), type := 4, pos := "laws.go:379", after := #[{ on := 27, ground := Ground.data }, { on := 24, ground := Ground.chain }], guard := none }) (v := ?vmr28) rfl (by kernel_rfl) (by kernel_rfl) (by kernel_rfl) (fun _ _ _ h => h) (Or.inl ⟨by rfl, ?hymr28⟩) hHeld ?_
    case hymr28 => (intro w hSw; (try dsimp only at hSw); go_simp <;> with_reducible rfl)
    try simp only [Act.put, List.setIfInBounds_toArray, List.set_cons_zero, List.set_cons_succ]
    refine wpAnyH_take (i := 29) (oi := { dst := some 74, op := Op.move (Operand.tmp 8), type := 4, pos := "laws.go:379", after := #[{ on := 28, ground := Ground.guard }], guard := some (28, false) }) (v := ?vmr29) rfl (by kernel_rfl) (by kernel_rfl) (by kernel_rfl) (fun _ _ _ h => h) (Or.inl ⟨by rfl, ?hymr29⟩) hHeld ?_
    case hymr29 => (intro w hSw; (try dsimp only at hSw); go_simp <;> with_reducible rfl)
    try simp only [Act.put, List.setIfInBounds_toArray, List.set_cons_zero, List.set_cons_succ]
    refine wpAnyH_take (i := 30) (oi := { dst := some 75, op := Op.unOp UnOp.not 4 (Operand.tmp 74), type := 4, pos := "laws.go:379", after := #[{ on := 29, ground := Ground.data }, { on := 28, ground := Ground.guard }], guard := some (28, false) }) (v := ?vmr30) rfl (by kernel_rfl) (by kernel_rfl) (by kernel_rfl) (fun _ _ _ h => h) (Or.inl ⟨by rfl, ?hymr30⟩) hHeld ?_
    case hymr30 => (intro w hSw; (try dsimp only at hSw); go_simp <;> with_reducible rfl)
    try simp only [Act.put, List.setIfInBounds_toArray, List.set_cons_zero, List.set_cons_succ]
    refine wpAnyH_take (i := 31) (oi := { dst := some 76, op := Op.move (Operand.tmp 75), type := 4, pos := "laws.go:379", after := #[{ on := 30, ground := Ground.data }, { on := 28, ground := Ground.chain }, { on := 28, ground := Ground.guard }], guard := some (28, false) }) (v := ?vmr31) rfl (by kernel_rfl) (by kernel_rfl) (by kernel_rfl) (fun _ _ _ h => h) (Or.inl ⟨by rfl, ?hymr31⟩) hHeld ?_
    case hymr31 => (intro w hSw; (try dsimp only at hSw); go_simp <;> with_reducible rfl)
    try simp only [Act.put, List.setIfInBounds_toArray, List.set_cons_zero, List.set_cons_succ]
    refine wpAnyH_take (i := 32) (oi := { dst := some 77, op := Op.load 29 (Operand.tmp 9), type := 29, pos := "laws.go:379", after := #[{ on := 31, ground := Ground.guard }], guard := some (31, true) }) (v := ?vmr32) rfl (by kernel_rfl) (by kernel_rfl) (by kernel_rfl) (fun _ _ _ h => h) (Or.inl ⟨by rfl, ?hymr32⟩) hHeld ?_
    case hymr32 => (intro w hSw; (try dsimp only at hSw); go_simp <;> with_reducible rfl)
    try simp only [Act.put, List.setIfInBounds_toArray, List.set_cons_zero, List.set_cons_succ]
    refine wpAnyH_take (i := 33) (oi := { dst := some 78, op := Op.load 29 (Operand.tmp 4), type := 29, pos := "laws.go:379", after := #[{ on := 31, ground := Ground.guard }], guard := some (31, true) }) (v := ?vmr33) rfl (by kernel_rfl) (by kernel_rfl) (by kernel_rfl) (fun _ _ _ h => h) (Or.inl ⟨by rfl, ?hymr33⟩) hHeld ?_
    case hymr33 => (intro w hSw; (try dsimp only at hSw); go_simp <;> with_reducible rfl)
    try simp only [Act.put, List.setIfInBounds_toArray, List.set_cons_zero, List.set_cons_succ]
    refine wpAnyH_ready (rs := [34]) (by kernel_rfl) (by simp) ?_
    refine AllReadyH.cons (o := { dst := some 79, op := Op.call { callee := Callee.value (Operand.func 20), args := #[Operand.tmp 77, Operand.tmp 78], argTypes := #[29, 29] }, type := 4, pos := "laws.go:379", after := #[{ on := 32, ground := Ground.data }, { on := 33, ground := Ground.data }, { on := 31, ground := Ground.chain }, { on := 31, ground := Ground.guard }], guard := some (31, true) }) rfl (fun K hK => ?_) AllReadyH.nil
    go_simp
    refine (SMX.out _ hHeld.1).mono ?_
    rintro r wvmr34 ⟨rfl, hy⟩
    have hz : Below w5.heap.size w5 wvmr34 := grow_on hHeld.1 hy
    clear hHeld hy
    refine hK.out _ _ (HS.out _ hz) (fun hHeld => ?_)
    clear hK K hz
    try simp only [Act.put, List.setIfInBounds_toArray, List.set_cons_zero, List.set_cons_succ]
    refine wpAnyH_take (i := 35) (oi := { dst := some 80, op := Op.unOp UnOp.not 4 (Operand.tmp 79), type := 4, pos := "laws.go:379", after := #[{ on := 34, ground := Ground.data }, { on := 31, ground := Ground.guard }], guard := some (31, true) }) (v := ?vmr35) rfl (by kernel_rfl) (by kernel_rfl) (by kernel_rfl) (fun _ _ _ h => h) (Or.inl ⟨by rfl, ?hymr35⟩) hHeld ?_
    case hymr35 => (intro w hSw; (try dsimp only at hSw); go_simp <;> with_reducible rfl)
    try simp only [Act.put, List.setIfInBounds_toArray, List.set_cons_zero, List.set_cons_succ]
    refine wpAnyH_take (i := 36) (oi := { dst := some 81, op := Op.pick (Operand.tmp 76) (Operand.tmp 80) (Operand.const (Value.bool false)), type := 4, pos := "laws.go:379", after := #[{ on := 31, ground := Ground.data }, { on := 35, ground := Ground.data }, { on := 28, ground := Ground.guard }], guard := some (28, false) }) (v := ?vmr36) rfl (by kernel_rfl) (by kernel_rfl) (by kernel_rfl) (fun _ _ _ h => h) (Or.inl ⟨by rfl, ?hymr36⟩) hHeld ?_
    case hymr36 => (intro w hSw; (try dsimp only at hSw); go_simp <;> with_reducible rfl)
    try simp only [Act.put, List.setIfInBounds_toArray, List.set_cons_zero, List.set_cons_succ]
    refine wpAnyH_take (i := 37) (oi := { dst := some 82, op := Op.pick (Operand.tmp 73) (Operand.const (Value.bool true)) (Operand.tmp 81), type := 4, pos := "laws.go:379", after := #[{ on := 28, ground := Ground.data }, { on := 36, ground := Ground.data }], guard := none }) (v := ?vmr37) rfl (by kernel_rfl) (by kernel_rfl) (by kernel_rfl) (fun _ _ _ h => h) (Or.inl ⟨by rfl, ?hymr37⟩) hHeld ?_
    case hymr37 => (intro w hSw; (try dsimp only at hSw); go_simp <;> with_reducible rfl)
    try simp only [Act.put, List.setIfInBounds_toArray, List.set_cons_zero, List.set_cons_succ]
    refine wpAnyH_done (by kernel_rfl) ?_ _
    have hbz := hHeld.1
    clear hHeld HS kz SMX O1 O2
    clear bA_w5
    clear bOld_w5
    clear bZ_w5
    clear DX_w5
    clear RZ_w5
    have B_wvmr34 : Hid (Below w.heap.size w wvmr34) := grow_on B_w5.out hbz
    have DS_wvmr34 : Hid (St 7 wvmr34 (some ⟨Ms, 0, none⟩) S) := DS_w5.out.below hbz
    have RX_wvmr34 : Hid (St 8 wvmr34 (some ⟨Mx, 0, none⟩) Q) := RX_w5.out.below hbz
    have RL_wvmr34 : Hid (RdN wvmr34 (some ⟨Ml, 0, none⟩) P) := RL_w5.out.below hbz
    clear B_w5 DS_w5 RX_w5 RL_w5
    clear hbz
    go_upto_region 11 with fail
    have hpl : P.length ≤ 1000 := by
      have h1 := FP.out.1; have h2 := FQ.out.sum; have h3 := allT_sum Q; have h4 := cnt_allT Q
      omega
    go_wp2
    go_loopw [12] (fun i w' => ∃ m : Nat, i = .int .i64 m ∧ m ≤ P.length ∧ Below wvmr34.heap.size wvmr34 w') (fun i _ => P.length - (intOf i).toNat)
    case atStart => exact ⟨0, rfl, Nat.zero_le _, Below.refl _ _⟩
    case round =>
      obtain ⟨m, rfl, hmA, hw0⟩ := hrel
      have HW : Hid (Below wvmr34.heap.size wvmr34 wr) := hw0
      clear hw0
      by_cases hlt : m < P.length
      ·
        have hlt' : (m : Int) < (P.length : Int) := by omega
        have HRL : Hid (RdN wr (some ⟨Ml, 0, none⟩) P) := RL_wvmr34.out.below HW.out
        have HRX : Hid (St 8 wr (some ⟨Mx, 0, none⟩) Q) := RX_wvmr34.out.below HW.out
        obtain ⟨bb, oo, ee, hbL, gL, oL, cpL, hatL⟩ := HRL.out.get hlt
        cases ee
        have HY : Hid (Fine (nthP P m) ∧ findS Q (nthP P m).l = some (nthP P m)) := FP.out.2.1 _ (nthP_mem hlt)
        obtain ⟨y1, hy1⟩ : ∃ y1, nthP P m = y1 := ⟨_, rfl⟩
        rw [hy1] at hatL HY
        have HRK : Hid (Reads wr (some ⟨gL, oL, none⟩) y1.l) := hatL.reads
        have rL0 : wr.cell? ⟨Ml, m * 4, none⟩ = some (.slice (some ⟨gL, oL, none⟩) y1.l.length cpL) := by have := hatL.c0; rwa [Nat.zero_add] at this
        have rL1 : wr.cell? ⟨Ml, m * 4 + 1, none⟩ = some (.int .i64 y1.s) := by have := hatL.c1; rwa [Nat.zero_add] at this
        have rL2 : wr.cell? ⟨Ml, m * 4 + 2, none⟩ = some (.int .i64 y1.e) := by have := hatL.c2; rwa [Nat.zero_add] at this
        have rL3 : wr.cell? ⟨Ml, m * 4 + 3, none⟩ = some (.string y1.n) := by have := hatL.c3; rwa [Nat.zero_add] at this
        have HFY : Hid (findSD Q y1.l = y1 ∧ (findS Q y1.l).isSome = true) := ⟨by unfold findSD; rw [HY.out.2]; rfl, by rw [HY.out.2]; rfl⟩
        clear hatL
        go_wp2_with fail
        refine (findR _ (some ⟨gL, oL, none⟩) cx cpL Q y1.l wr HRX.out HRK.out HY.out.1.2 HY.out.1.1.fits HFY.out.1 HFY.out.2).mono ?_
        rintro r wf ⟨⟨bf, cf, rfl, hrf⟩, hbf⟩
        go_upto_region 14 with fail
        generalize hz : wf.alloc (.cells #[.slice bf y1.l.length cf, .int .i64 y1.s, .int .i64 y1.e, .string y1.n] 29) = zk
        have hbz : Below wf.heap.size wf zk := by rw [← hz]; exact Go.Joins.below_alloc1 wf _
        have HF : Hid (Blk zk wf.heap.size #[.slice bf y1.l.length cf, .int .i64 y1.s, .int .i64 y1.e, .string y1.n] 29) := by rw [← hz]; exact Blk.new _ _ _
        have HB3 : Hid (Below wr.heap.size wr zk) := grow_on hbf hbz
        have HRF : Hid (Reads zk bf y1.l) := hrf.below hbz
        have HRK3 : Hid (Reads zk (some ⟨gL, oL, none⟩) y1.l) := HRK.out.below HB3.out
        clear hz hbz hrf hbf
        generalize wf.heap.size = Fk at HF ⊢
        have kz : Below zk.heap.size zk zk.drew := (Below.refl _ _).drew
        have HZZ : Hid (Below wvmr34.heap.size wvmr34 zk) := grow_on HW.out HB3.out
        have SA : Hid (∀ (u : World), Below zk.heap.size zk u → Calls Tryz.prog 20 #[.agg #[.slice bf y1.l.length cf, .int .i64 y1.s, .int .i64 y1.e, .string y1.n], .agg #[.slice (some ⟨gL, oL, none⟩) y1.l.length cpL, .int .i64 y1.s, .int .i64 y1.e, .string y1.n]] u fun r w' => r = .returned (.bool true) ∧ Below u.heap.size u w') := fun u hu => (implSameA_any _ _ _ _ y1.l y1.l _ _ _ _ _ _ u (HRF.out.below hu) (HRK3.out.below hu) (fine_max HY.out.1) (fine_max HY.out.1)).mono fun e w' h => ⟨h.1.trans (retB (Alm.same_self _ _ _ _)), h.2⟩
        by_cases hm0 : m = 0
        ·
          have HM0 : Hid (m = 0) := hm0
          have hg0 : ¬ (m : Int) > 0 := by omega
          have hg1 : decide ((m : Int) > 0) = false := decide_eq_false hg0
          have HS : Hid (∀ w', Below zk.heap.size zk w' → Below zk.heap.size zk w' ∧ w'.cell? ⟨Fk, 0, none⟩ = some (.slice bf y1.l.length cf) ∧ w'.cell? ⟨Fk, 1, none⟩ = some (.int .i64 y1.s) ∧ w'.cell? ⟨Fk, 2, none⟩ = some (.int .i64 y1.e) ∧ w'.cell? ⟨Fk, 3, none⟩ = some (.string y1.n) ∧ w'.cell? ⟨Ml, m * 4, none⟩ = some (.slice (some ⟨gL, oL, none⟩) y1.l.length cpL) ∧ w'.cell? ⟨Ml, m * 4 + 1, none⟩ = some (.int .i64 y1.s) ∧ w'.cell? ⟨Ml, m * 4 + 2, none⟩ = some (.int .i64 y1.e) ∧ w'.cell? ⟨Ml, m * 4 + 3, none⟩ = some (.string y1.n)) := fun w' h => ⟨h, (HF.out.grow h).cell 0, (HF.out.grow h).cell 1, (HF.out.grow h).cell 2, (HF.out.grow h).cell 3, ((grow_on HB3.out h).cell (p := ⟨Ml, m * 4, none⟩) hbL).trans rL0, ((grow_on HB3.out h).cell (p := ⟨Ml, m * 4 + 1, none⟩) hbL).trans rL1, ((grow_on HB3.out h).cell (p := ⟨Ml, m * 4 + 2, none⟩) hbL).trans rL2, ((grow_on HB3.out h).cell (p := ⟨Ml, m * 4 + 3, none⟩) hbL).trans rL3⟩
          clear rL0 rL1 rL2 rL3 hm0
          refine wp_region_held_drew (S := fun w' => Below zk.heap.size zk w' ∧ w'.cell? ⟨Fk, 0, none⟩ = some (.slice bf y1.l.length cf) ∧ w'.cell? ⟨Fk, 1, none⟩ = some (.int .i64 y1.s) ∧ w'.cell? ⟨Fk, 2, none⟩ = some (.int .i64 y1.e) ∧ w'.cell? ⟨Fk, 3, none⟩ = some (.string y1.n) ∧ w'.cell? ⟨Ml, m * 4, none⟩ = some (.slice (some ⟨gL, oL, none⟩) y1.l.length cpL) ∧ w'.cell? ⟨Ml, m * 4 + 1, none⟩ = some (.int .i64 y1.s) ∧ w'.cell? ⟨Ml, m * 4 + 2, none⟩ = some (.int .i64 y1.e) ∧ w'.cell? ⟨Ml, m * 4 + 3, none⟩ = some (.string y1.n)) (by kernel_rfl) (HS.out _ kz) (fun hHeld => ?_)
          refine wpAnyH_take (i := 0) (oi := { dst := some 99, op := Op.move (Operand.tmp 14), type := 4, pos := "laws.go:384", after := #[], guard := none }) (v := ?vmz0) rfl (by kernel_rfl) (by kernel_rfl) (by kernel_rfl) (fun _ _ _ h => h) (Or.inl ⟨by rfl, ?hymz0⟩) hHeld ?_
          case hymz0 => (intro w hSw; (try dsimp only at hSw); go_simp <;> with_reducible rfl)
          try simp only [Act.put, List.setIfInBounds_toArray, List.set_cons_zero, List.set_cons_succ]
          refine wpAnyH_take (i := 1) (oi := { dst := some 100, op := Op.unOp UnOp.not 4 (Operand.tmp 99), type := 4, pos := "laws.go:384", after := #[{ on := 0, ground := Ground.data }], guard := none }) (v := ?vmz1) rfl (by kernel_rfl) (by kernel_rfl) (by kernel_rfl) (fun _ _ _ h => h) (Or.inl ⟨by rfl, ?hymz1⟩) hHeld ?_
          case hymz1 => (intro w hSw; (try dsimp only at hSw); go_simp <;> with_reducible rfl)
          try simp only [Act.put, List.setIfInBounds_toArray, List.set_cons_zero, List.set_cons_succ]
          refine wpAnyH_take (i := 2) (oi := { dst := some 101, op := Op.move (Operand.tmp 100), type := 4, pos := "laws.go:384", after := #[{ on := 1, ground := Ground.data }], guard := none }) (v := ?vmz2) rfl (by kernel_rfl) (by kernel_rfl) (by kernel_rfl) (fun _ _ _ h => h) (Or.inl ⟨by rfl, ?hymz2⟩) hHeld ?_
          case hymz2 => (intro w hSw; (try dsimp only at hSw); go_simp <;> with_reducible rfl)
          try simp only [Act.put, List.setIfInBounds_toArray, List.set_cons_zero, List.set_cons_succ]
          refine wpAnyH_take (i := 3) (oi := { dst := some 102, op := Op.load 29 (Operand.tmp 13), type := 29, pos := "laws.go:384", after := #[{ on := 2, ground := Ground.guard }], guard := some (2, false) }) (v := ?vmz3) rfl (by kernel_rfl) (by kernel_rfl) (by kernel_rfl) (fun _ _ _ h => h) (Or.inl ⟨by rfl, ?hymz3⟩) hHeld ?_
          case hymz3 => (intro w hSw; (try dsimp only at hSw); go_simp <;> with_reducible rfl)
          try simp only [Act.put, List.setIfInBounds_toArray, List.set_cons_zero, List.set_cons_succ]
          refine wpAnyH_take (i := 4) (oi := { dst := some 103, op := Op.move (Operand.tmp 11), type := 40, pos := "laws.go:384", after := #[{ on := 2, ground := Ground.guard }], guard := some (2, false) }) (v := ?vmz4) rfl (by kernel_rfl) (by kernel_rfl) (by kernel_rfl) (fun _ _ _ h => h) (Or.inl ⟨by rfl, ?hymz4⟩) hHeld ?_
          case hymz4 => (intro w hSw; (try dsimp only at hSw); go_simp <;> with_reducible rfl)
          try simp only [Act.put, List.setIfInBounds_toArray, List.set_cons_zero, List.set_cons_succ]
          refine wpAnyH_take (i := 5) (oi := { dst := some 104, op := Op.move (Operand.tmp 12), type := 3, pos := "laws.go:384", after := #[{ on := 2, ground := Ground.guard }], guard := some (2, false) }) (v := ?vmz5) rfl (by kernel_rfl) (by kernel_rfl) (by kernel_rfl) (fun _ _ _ h => h) (Or.inl ⟨by rfl, ?hymz5⟩) hHeld ?_
          case hymz5 => (intro w hSw; (try dsimp only at hSw); go_simp <;> with_reducible rfl)
          try simp only [Act.put, List.setIfInBounds_toArray, List.set_cons_zero, List.set_cons_succ]
          refine wpAnyH_take (i := 6) (oi := { dst := some 105, op := Op.indexAddr 40 (Operand.tmp 103) (Operand.tmp 104), type := 0, pos := "laws.go:384", after := #[{ on := 4, ground := Ground.data }, { on := 5, ground := Ground.data }, { on := 2, ground := Ground.guard }], guard := some (2, false) }) (v := ?vmz6) rfl (by kernel_rfl) (by kernel_rfl) (by kernel_rfl) (fun _ _ _ h => h) (Or.inl ⟨by rfl, ?hymz6⟩) hHeld ?_
          case hymz6 => (intro w hSw; (try dsimp only at hSw); go_simp <;> with_reducible rfl)
          try simp only [Act.put, List.setIfInBounds_toArray, List.set_cons_zero, List.set_cons_succ]
          refine wpAnyH_take (i := 7) (oi := { dst := some 106, op := Op.load 29 (Operand.tmp 105), type := 29, pos := "laws.go:384", after := #[{ on := 6, ground := Ground.data }, { on := 2, ground := Ground.guard }], guard := some (2, false) }) (v := ?vmz7) rfl (by kernel_rfl) (by kernel_rfl) (by kernel_rfl) (fun _ _ _ h => h) (Or.inl ⟨by rfl, ?hymz7⟩) hHeld ?_
          case hymz7 => (intro w hSw; (try dsimp only at hSw); go_simp <;> with_reducible rfl)
          try simp only [Act.put, List.setIfInBounds_toArray, List.set_cons_zero, List.set_cons_succ]
          refine wpAnyH_ready (rs := [8]) (by kernel_rfl) (by simp) ?_
          refine AllReadyH.cons (o := { dst := some 107, op := Op.call { callee := Callee.value (Operand.func 20), args := #[Operand.tmp 102, Operand.tmp 106], argTypes := #[29, 29] }, type := 4, pos := "laws.go:384", after := #[{ on := 3, ground := Ground.data }, { on := 7, ground := Ground.data }, { on := 2, ground := Ground.chain }, { on := 2, ground := Ground.guard }], guard := some (2, false) }) rfl (fun K hK => ?_) AllReadyH.nil
          go_simp
          refine (SA.out _ hHeld.1).mono ?_
          rintro r wvmz8 ⟨rfl, hy⟩
          have hz : Below zk.heap.size zk wvmz8 := grow_on hHeld.1 hy
          clear hHeld hy
          refine hK.out _ _ (HS.out _ hz) (fun hHeld => ?_)
          clear hK K hz
          try simp only [Act.put, List.setIfInBounds_toArray, List.set_cons_zero, List.set_cons_succ]
          refine wpAnyH_take (i := 9) (oi := { dst := some 108, op := Op.unOp UnOp.not 4 (Operand.tmp 107), type := 4, pos := "laws.go:384", after := #[{ on := 8, ground := Ground.data }, { on := 2, ground := Ground.guard }], guard := some (2, false) }) (v := ?vmz9) rfl (by kernel_rfl) (by kernel_rfl) (by kernel_rfl) (fun _ _ _ h => h) (Or.inl ⟨by rfl, ?hymz9⟩) hHeld ?_
          case hymz9 => (intro w hSw; (try dsimp only at hSw); go_simp <;> with_reducible rfl)
          try simp only [Act.put, List.setIfInBounds_toArray, List.set_cons_zero, List.set_cons_succ]
          refine wpAnyH_take (i := 10) (oi := { dst := some 109, op := Op.pick (Operand.tmp 101) (Operand.const (Value.bool true)) (Operand.tmp 108), type := 4, pos := "laws.go:384", after := #[{ on := 2, ground := Ground.data }, { on := 9, ground := Ground.data }], guard := none }) (v := ?vmz10) rfl (by kernel_rfl) (by kernel_rfl) (by kernel_rfl) (fun _ _ _ h => h) (Or.inl ⟨by rfl, ?hymz10⟩) hHeld ?_
          case hymz10 => (intro w hSw; (try dsimp only at hSw); go_simp <;> with_reducible rfl)
          try simp only [Act.put, List.setIfInBounds_toArray, List.set_cons_zero, List.set_cons_succ]
          refine wpAnyH_take (i := 11) (oi := { dst := some 110, op := Op.move (Operand.tmp 109), type := 4, pos := "laws.go:384", after := #[{ on := 10, ground := Ground.data }, { on := 8, ground := Ground.chain }], guard := none }) (v := ?vmz11) rfl (by kernel_rfl) (by kernel_rfl) (by kernel_rfl) (fun _ _ _ h => h) (Or.inl ⟨by rfl, ?hymz11⟩) hHeld ?_
          case hymz11 => (intro w hSw; (try dsimp only at hSw); go_simp <;> with_reducible rfl)
          try simp only [Act.put, List.setIfInBounds_toArray, List.set_cons_zero, List.set_cons_succ]
          refine wpAnyH_take (i := 12) (oi := { dst := some 111, op := Op.move (Operand.tmp 12), type := 3, pos := "laws.go:384", after := #[{ on := 11, ground := Ground.guard }], guard := some (11, false) }) (v := ?vmz12) rfl (by kernel_rfl) (by kernel_rfl) (by kernel_rfl) (fun _ _ _ h => h) (Or.inl ⟨by rfl, ?hymz12⟩) hHeld ?_
          case hymz12 => (intro w hSw; (try dsimp only at hSw); go_simp <;> with_reducible rfl)
          try simp only [Act.put, List.setIfInBounds_toArray, List.set_cons_zero, List.set_cons_succ]
          refine wpAnyH_take (i := 13) (oi := { dst := some 112, op := Op.binOp BinOp.gtr 3 (Operand.tmp 111) (Operand.const (Value.int IntKind.i64 0)) 3, type := 4, pos := "laws.go:384", after := #[{ on := 12, ground := Ground.data }, { on := 11, ground := Ground.guard }], guard := some (11, false) }) (v := .bool false) rfl (by kernel_rfl) (by kernel_rfl) (by kernel_rfl) (fun _ _ _ h => h) (Or.inl ⟨by rfl, ?hymz13⟩) hHeld ?_
          case hymz13 => (intro w hSw; (try dsimp only at hSw); go_simp <;> first | done | exact HM0.out | exact hg1)
          try simp only [Act.put, List.setIfInBounds_toArray, List.set_cons_zero, List.set_cons_succ]
          refine wpAnyH_take (i := 14) (oi := { dst := some 113, op := Op.move (Operand.tmp 112), type := 4, pos := "laws.go:384", after := #[{ on := 13, ground := Ground.data }, { on := 11, ground := Ground.chain }, { on := 11, ground := Ground.guard }], guard := some (11, false) }) (v := ?vmz14) rfl (by kernel_rfl) (by kernel_rfl) (by kernel_rfl) (fun _ _ _ h => h) (Or.inl ⟨by rfl, ?hymz14⟩) hHeld ?_
          case hymz14 => (intro w hSw; (try dsimp only at hSw); go_simp <;> with_reducible rfl)
          try simp only [Act.put, List.setIfInBounds_toArray, List.set_cons_zero, List.set_cons_succ]
          refine wpAnyH_take (i := 15) (oi := { dst := some 114, op := Op.move (Operand.tmp 11), type := 40, pos := "laws.go:384", after := #[{ on := 14, ground := Ground.guard }], guard := some (14, true) }) (v := undef) rfl (by kernel_rfl) (by kernel_rfl) (by kernel_rfl) (fun _ _ _ h => h) (Or.inr ⟨by rfl, rfl⟩) hHeld ?_
          try simp only [Act.put, List.setIfInBounds_toArray, List.set_cons_zero, List.set_cons_succ]
          refine wpAnyH_take (i := 16) (oi := { dst := some 115, op := Op.move (Operand.tmp 12), type := 3, pos := "laws.go:384", after := #[{ on := 14, ground := Ground.guard }], guard := some (14, true) }) (v := undef) rfl (by kernel_rfl) (by kernel_rfl) (by kernel_rfl) (fun _ _ _ h => h) (Or.inr ⟨by rfl, rfl⟩) hHeld ?_
          try simp only [Act.put, List.setIfInBounds_toArray, List.set_cons_zero, List.set_cons_succ]
          refine wpAnyH_take (i := 17) (oi := { dst := some 116, op := Op.binOp BinOp.sub 3 (Operand.tmp 115) (Operand.const (Value.int IntKind.i64 1)) 3, type := 3, pos := "laws.go:384", after := #[{ on := 16, ground := Ground.data }, { on := 14, ground := Ground.guard }], guard := some (14, true) }) (v := undef) rfl (by kernel_rfl) (by kernel_rfl) (by kernel_rfl) (fun _ _ _ h => h) (Or.inr ⟨by rfl, rfl⟩) hHeld ?_
          try simp only [Act.put, List.setIfInBounds_toArray, List.set_cons_zero, List.set_cons_succ]
          refine wpAnyH_take (i := 18) (oi := { dst := some 117, op := Op.indexAddr 40 (Operand.tmp 114) (Operand.tmp 116), type := 0, pos := "laws.go:384", after := #[{ on := 15, ground := Ground.data }, { on := 17, ground := Ground.data }, { on := 14, ground := Ground.guard }], guard := some (14, true) }) (v := undef) rfl (by kernel_rfl) (by kernel_rfl) (by kernel_rfl) (fun _ _ _ h => h) (Or.inr ⟨by rfl, rfl⟩) hHeld ?_
          try simp only [Act.put, List.setIfInBounds_toArray, List.set_cons_zero, List.set_cons_succ]
          refine wpAnyH_take (i := 19) (oi := { dst := some 118, op := Op.fieldAddr 29 (Operand.tmp 117) 0, type := 0, pos := "laws.go:384", after := #[{ on := 18, ground := Ground.data }, { on := 14, ground := Ground.guard }], guard := some (14, true) }) (v := undef) rfl (by kernel_rfl) (by kernel_rfl) (by kernel_rfl) (fun _ _ _ h => h) (Or.inr ⟨by rfl, rfl⟩) hHeld ?_
          try simp only [Act.put, List.setIfInBounds_toArray, List.set_cons_zero, List.set_cons_succ]
          refine wpAnyH_take (i := 20) (oi := { dst := some 119, op := Op.load 27 (Operand.tmp 118), type := 27, pos := "laws.go:384", after := #[{ on := 19, ground := Ground.data }, { on := 14, ground := Ground.guard }], guard := some (14, true) }) (v := undef) rfl (by kernel_rfl) (by kernel_rfl) (by kernel_rfl) (fun _ _ _ h => h) (Or.inr ⟨by rfl, rfl⟩) hHeld ?_
          try simp only [Act.put, List.setIfInBounds_toArray, List.set_cons_zero, List.set_cons_succ]
          refine wpAnyH_take (i := 21) (oi := { dst := some 120, op := Op.move (Operand.tmp 11), type := 40, pos := "laws.go:384", after := #[{ on := 14, ground := Ground.guard }], guard := some (14, true) }) (v := undef) rfl (by kernel_rfl) (by kernel_rfl) (by kernel_rfl) (fun _ _ _ h => h) (Or.inr ⟨by rfl, rfl⟩) hHeld ?_
          try simp only [Act.put, List.setIfInBounds_toArray, List.set_cons_zero, List.set_cons_succ]
          refine wpAnyH_take (i := 22) (oi := { dst := some 121, op := Op.move (Operand.tmp 12), type := 3, pos := "laws.go:384", after := #[{ on := 14, ground := Ground.guard }], guard := some (14, true) }) (v := undef) rfl (by kernel_rfl) (by kernel_rfl) (by kernel_rfl) (fun _ _ _ h => h) (Or.inr ⟨by rfl, rfl⟩) hHeld ?_
          try simp only [Act.put, List.setIfInBounds_toArray, List.set_cons_zero, List.set_cons_succ]
          refine wpAnyH_take (i := 23) (oi := { dst := some 122, op := Op.indexAddr 40 (Operand.tmp 120) (Operand.tmp 121), type := 0, pos := "laws.go:384", after := #[{ on := 21, ground := Ground.data }, { on := 22, ground := Ground.data }, { on := 14, ground := Ground.guard }], guard := some (14, true) }) (v := undef) rfl (by kernel_rfl) (by kernel_rfl) (by kernel_rfl) (fun _ _ _ h => h) (Or.inr ⟨by rfl, rfl⟩) hHeld ?_
          try simp only [Act.put, List.setIfInBounds_toArray, List.set_cons_zero, List.set_cons_succ]
          refine wpAnyH_take (i := 24) (oi := { dst := some 123, op := Op.fieldAddr 29 (Operand.tmp 122) 0, type := 0, pos := "laws.go:384", after := #[{ on := 23, ground := Ground.data }, { on := 14, ground := Ground.guard }], guard := some (14, true) }) (v := undef) rfl (by kernel_rfl) (by kernel_rfl) (by kernel_rfl) (fun _ _ _ h => h) (Or.inr ⟨by rfl, rfl⟩) hHeld ?_
          try simp only [Act.put, List.setIfInBounds_toArray, List.set_cons_zero, List.set_cons_succ]
          refine wpAnyH_take (i := 25) (oi := { dst := some 124, op := Op.load 27 (Operand.tmp 123), type := 27, pos := "laws.go:384", after := #[{ on := 24, ground := Ground.data }, { on := 14, ground := Ground.guard }], guard := some (14, true) }) (v := undef) rfl (by kernel_rfl) (by kernel_rfl) (by kernel_rfl) (fun _ _ _ h => h) (Or.inr ⟨by rfl, rfl⟩) hHeld ?_
          try simp only [Act.put, List.setIfInBounds_toArray, List.set_cons_zero, List.set_cons_succ]
          refine wpAnyH_ready (rs := [26]) (by kernel_rfl) (by simp) ?_
          refine AllReadyH.cons (o := { dst := some 125, op := Op.call { callee := Callee.value (Operand.func 34), args := #[Operand.tmp 119, Operand.tmp 124], argTypes := #[27, 27] }, type := 4, pos := "laws.go:384", after := #[{ on := 20, ground := Ground.data }, { on := 25, ground := Ground.data }, { on := 14, ground := Ground.chain }, { on := 14, ground := Ground.guard }], guard := some (14, true) }) rfl (fun K hK => ?_) AllReadyH.nil
          go_simp
          refine hK.out _ _ hHeld (fun hHeld => ?_)
          clear hK K
          try simp only [Act.put, List.setIfInBounds_toArray, List.set_cons_zero, List.set_cons_succ]
          refine wpAnyH_take (i := 27) (oi := { dst := some 126, op := Op.unOp UnOp.not 4 (Operand.tmp 125), type := 4, pos := "laws.go:384", after := #[{ on := 26, ground := Ground.data }, { on := 14, ground := Ground.guard }], guard := some (14, true) }) (v := undef) rfl (by kernel_rfl) (by kernel_rfl) (by kernel_rfl) (fun _ _ _ h => h) (Or.inr ⟨by rfl, rfl⟩) hHeld ?_
          try simp only [Act.put, List.setIfInBounds_toArray, List.set_cons_zero, List.set_cons_succ]
          refine wpAnyH_take (i := 28) (oi := { dst := some 127, op := Op.pick (Operand.tmp 113) (Operand.tmp 126) (Operand.const (Value.bool false)), type := 4, pos := "laws.go:384", after := #[{ on := 14, ground := Ground.data }, { on := 27, ground := Ground.data }, { on := 11, ground := Ground.guard }], guard := some (11, false) }) (v := ?vmz28) rfl (by kernel_rfl) (by kernel_rfl) (by kernel_rfl) (fun _ _ _ h => h) (Or.inl ⟨by rfl, ?hymz28⟩) hHeld ?_
          case hymz28 => (intro w hSw; (try dsimp only at hSw); go_simp <;> with_reducible rfl)
          try simp only [Act.put, List.setIfInBounds_toArray, List.set_cons_zero, List.set_cons_succ]
          refine wpAnyH_take (i := 29) (oi := { dst := some 128, op := Op.pick (Operand.tmp 110) (Operand.const (Value.bool true)) (Operand.tmp 127), type := 4, pos := "laws.go:384", after := #[{ on := 11, ground := Ground.data }, { on := 28, ground := Ground.data }], guard := none }) (v := ?vmz29) rfl (by kernel_rfl) (by kernel_rfl) (by kernel_rfl) (fun _ _ _ h => h) (Or.inl ⟨by rfl, ?hymz29⟩) hHeld ?_
          case hymz29 => (intro w hSw; (try dsimp only at hSw); go_simp <;> with_reducible rfl)
          try simp only [Act.put, List.setIfInBounds_toArray, List.set_cons_zero, List.set_cons_succ]
          refine wpAnyH_done (by kernel_rfl) ?_ _
          have HV2 : Hid (Below wvmr34.heap.size wvmr34 wvmz8) := grow_on HZZ.out hHeld.1
          clear hHeld HS kz SA
          go_wp2
          go_roundw
          case rel => exact ⟨m + 1, by go_num, by omega, HV2.out⟩
          case measure => simp [intOf]; omega
        ·
          obtain ⟨j, hj⟩ : ∃ j, m = j + 1 := ⟨m - 1, by omega⟩
          have hjl : j < P.length := by omega
          have hjl' : (j : Int) < (P.length : Int) := by omega
          obtain ⟨bb2, oo2, ee2, _, gK, oK, cpK, hatK⟩ := HRL.out.get hjl
          cases ee2
          obtain ⟨y0, hy0⟩ : ∃ y0, nthP P j = y0 := ⟨_, rfl⟩
          have HSL : Hid (LabL.slB y0.l y1.l = true) := by
            rw [← hy0, ← hy1, nthP_eq hjl, nthP_eq hlt]
            exact List.pairwise_iff_getElem.1 FP.out.2.2 j m hjl hlt (by omega)
          have HFK : Hid (Fine y0) := by rw [← hy0]; exact (FP.out.2.1 _ (nthP_mem hjl)).1
          rw [hy0] at hatK
          have HRK0 : Hid (Reads zk (some ⟨gK, oK, none⟩) y0.l) := hatK.reads.below HB3.out
          have rK : wr.cell? ⟨Ml, j * 4, none⟩ = some (.slice (some ⟨gK, oK, none⟩) y0.l.length cpK) := by have := hatK.c0; rwa [Nat.zero_add] at this
          have h00 : 0 < m := by omega
          have HM0 : Hid (0 < m) := h00
          clear h00
          have hg1 : decide ((m : Int) > 0) = true := decide_eq_true (by omega)
          have h00 : IntKind.i64.wrap ((m : Int) - 1) = (j : Int) := by rw [IntKind.wrap_i64]; omega
          have HW1 : Hid (IntKind.i64.wrap ((m : Int) - 1) = (j : Int)) := h00
          clear h00
          have HLS : Hid (∀ (u : World), Below zk.heap.size zk u → Calls Tryz.prog 34 #[.slice (some ⟨gK, oK, none⟩) y0.l.length cpK, .slice (some ⟨gL, oL, none⟩) y1.l.length cpL] u fun r w' => r = .returned (.bool true) ∧ Below u.heap.size u w') := fun u hu => (LabL.implLessS_any _ _ cpK cpL y0.l y1.l u (HRK0.out.below hu) (HRK3.out.below hu) (fine_max HFK.out) (fine_max HY.out.1)).mono fun e w' h => ⟨h.1.trans (retB HSL.out), h.2⟩
          have HS : Hid (∀ w', Below zk.heap.size zk w' → Below zk.heap.size zk w' ∧ w'.cell? ⟨Fk, 0, none⟩ = some (.slice bf y1.l.length cf) ∧ w'.cell? ⟨Fk, 1, none⟩ = some (.int .i64 y1.s) ∧ w'.cell? ⟨Fk, 2, none⟩ = some (.int .i64 y1.e) ∧ w'.cell? ⟨Fk, 3, none⟩ = some (.string y1.n) ∧ w'.cell? ⟨Ml, m * 4, none⟩ = some (.slice (some ⟨gL, oL, none⟩) y1.l.length cpL) ∧ w'.cell? ⟨Ml, m * 4 + 1, none⟩ = some (.int .i64 y1.s) ∧ w'.cell? ⟨Ml, m * 4 + 2, none⟩ = some (.int .i64 y1.e) ∧ w'.cell? ⟨Ml, m * 4 + 3, none⟩ = some (.string y1.n) ∧ w'.cell? ⟨Ml, j * 4, none⟩ = some (.slice (some ⟨gK, oK, none⟩) y0.l.length cpK)) := fun w' h => ⟨h, (HF.out.grow h).cell 0, (HF.out.grow h).cell 1, (HF.out.grow h).cell 2, (HF.out.grow h).cell 3, ((grow_on HB3.out h).cell (p := ⟨Ml, m * 4, none⟩) hbL).trans rL0, ((grow_on HB3.out h).cell (p := ⟨Ml, m * 4 + 1, none⟩) hbL).trans rL1, ((grow_on HB3.out h).cell (p := ⟨Ml, m * 4 + 2, none⟩) hbL).trans rL2, ((grow_on HB3.out h).cell (p := ⟨Ml, m * 4 + 3, none⟩) hbL).trans rL3, ((grow_on HB3.out h).cell (p := ⟨Ml, j * 4, none⟩) hbL).trans rK⟩
          clear rL0 rL1 rL2 rL3 rK hm0 hj hy0 hatK
          refine wp_region_held_drew (S := fun w' => Below zk.heap.size zk w' ∧ w'.cell? ⟨Fk, 0, none⟩ = some (.slice bf y1.l.length cf) ∧ w'.cell? ⟨Fk, 1, none⟩ = some (.int .i64 y1.s) ∧ w'.cell? ⟨Fk, 2, none⟩ = some (.int .i64 y1.e) ∧ w'.cell? ⟨Fk, 3, none⟩ = some (.string y1.n) ∧ w'.cell? ⟨Ml, m * 4, none⟩ = some (.slice (some ⟨gL, oL, none⟩) y1.l.length cpL) ∧ w'.cell? ⟨Ml, m * 4 + 1, none⟩ = some (.int .i64 y1.s) ∧ w'.cell? ⟨Ml, m * 4 + 2, none⟩ = some (.int .i64 y1.e) ∧ w'.cell? ⟨Ml, m * 4 + 3, none⟩ = some (.string y1.n) ∧ w'.cell? ⟨Ml, j * 4, none⟩ = some (.slice (some ⟨gK, oK, none⟩) y0.l.length cpK)) (by kernel_rfl) (HS.out _ kz) (fun hHeld => ?_)
          refine wpAnyH_take (i := 0) (oi := { dst := some 99, op := Op.move (Operand.tmp 14), type := 4, pos := "laws.go:384", after := #[], guard := none }) (v := ?vmy0) rfl (by kernel_rfl) (by kernel_rfl) (by kernel_rfl) (fun _ _ _ h => h) (Or.inl ⟨by rfl, ?hymy0⟩) hHeld ?_
          case hymy0 => (intro w hSw; (try dsimp only at hSw); go_simp <;> with_reducible rfl)
          try simp only [Act.put, List.setIfInBounds_toArray, List.set_cons_zero, List.set_cons_succ]
          refine wpAnyH_take (i := 1) (oi := { dst := some 100, op := Op.unOp UnOp.not 4 (Operand.tmp 99), type := 4, pos := "laws.go:384", after := #[{ on := 0, ground := Ground.data }], guard := none }) (v := ?vmy1) rfl (by kernel_rfl) (by kernel_rfl) (by kernel_rfl) (fun _ _ _ h => h) (Or.inl ⟨by rfl, ?hymy1⟩) hHeld ?_
          case hymy1 => (intro w hSw; (try dsimp only at hSw); go_simp <;> with_reducible rfl)
          try simp only [Act.put, List.setIfInBounds_toArray, List.set_cons_zero, List.set_cons_succ]
          refine wpAnyH_take (i := 2) (oi := { dst := some 101, op := Op.move (Operand.tmp 100), type := 4, pos := "laws.go:384", after := #[{ on := 1, ground := Ground.data }], guard := none }) (v := ?vmy2) rfl (by kernel_rfl) (by kernel_rfl) (by kernel_rfl) (fun _ _ _ h => h) (Or.inl ⟨by rfl, ?hymy2⟩) hHeld ?_
          case hymy2 => (intro w hSw; (try dsimp only at hSw); go_simp <;> with_reducible rfl)
          try simp only [Act.put, List.setIfInBounds_toArray, List.set_cons_zero, List.set_cons_succ]
          refine wpAnyH_take (i := 3) (oi := { dst := some 102, op := Op.load 29 (Operand.tmp 13), type := 29, pos := "laws.go:384", after := #[{ on := 2, ground := Ground.guard }], guard := some (2, false) }) (v := ?vmy3) rfl (by kernel_rfl) (by kernel_rfl) (by kernel_rfl) (fun _ _ _ h => h) (Or.inl ⟨by rfl, ?hymy3⟩) hHeld ?_
          case hymy3 => (intro w hSw; (try dsimp only at hSw); go_simp <;> with_reducible rfl)
          try simp only [Act.put, List.setIfInBounds_toArray, List.set_cons_zero, List.set_cons_succ]
          refine wpAnyH_take (i := 4) (oi := { dst := some 103, op := Op.move (Operand.tmp 11), type := 40, pos := "laws.go:384", after := #[{ on := 2, ground := Ground.guard }], guard := some (2, false) }) (v := ?vmy4) rfl (by kernel_rfl) (by kernel_rfl) (by kernel_rfl) (fun _ _ _ h => h) (Or.inl ⟨by rfl, ?hymy4⟩) hHeld ?_
          case hymy4 => (intro w hSw; (try dsimp only at hSw); go_simp <;> with_reducible rfl)
          try simp only [Act.put, List.setIfInBounds_toArray, List.set_cons_zero, List.set_cons_succ]
          refine wpAnyH_take (i := 5) (oi := { dst := some 104, op := Op.move (Operand.tmp 12), type := 3, pos := "laws.go:384", after := #[{ on := 2, ground := Ground.guard }], guard := some (2, false) }) (v := ?vmy5) rfl (by kernel_rfl) (by kernel_rfl) (by kernel_rfl) (fun _ _ _ h => h) (Or.inl ⟨by rfl, ?hymy5⟩) hHeld ?_
          case hymy5 => (intro w hSw; (try dsimp only at hSw); go_simp <;> with_reducible rfl)
          try simp only [Act.put, List.setIfInBounds_toArray, List.set_cons_zero, List.set_cons_succ]
          refine wpAnyH_take (i := 6) (oi := { dst := some 105, op := Op.indexAddr 40 (Operand.tmp 103) (Operand.tmp 104), type := 0, pos := "laws.go:384", after := #[{ on := 4, ground := Ground.data }, { on := 5, ground := Ground.data }, { on := 2, ground := Ground.guard }], guard := some (2, false) }) (v := ?vmy6) rfl (by kernel_rfl) (by kernel_rfl) (by kernel_rfl) (fun _ _ _ h => h) (Or.inl ⟨by rfl, ?hymy6⟩) hHeld ?_
          case hymy6 => (intro w hSw; (try dsimp only at hSw); go_simp <;> with_reducible rfl)
          try simp only [Act.put, List.setIfInBounds_toArray, List.set_cons_zero, List.set_cons_succ]
          refine wpAnyH_take (i := 7) (oi := { dst := some 106, op := Op.load 29 (Operand.tmp 105), type := 29, pos := "laws.go:384", after := #[{ on := 6, ground := Ground.data }, { on := 2, ground := Ground.guard }], guard := some (2, false) }) (v := ?vmy7) rfl (by kernel_rfl) (by kernel_rfl) (by kernel_rfl) (fun _ _ _ h => h) (Or.inl ⟨by rfl, ?hymy7⟩) hHeld ?_
          case hymy7 => (intro w hSw; (try dsimp only at hSw); go_simp <;> with_reducible rfl)
          try simp only [Act.put, List.setIfInBounds_toArray, List.set_cons_zero, List.set_cons_succ]
          refine wpAnyH_ready (rs := [8]) (by kernel_rfl) (by simp) ?_
          refine AllReadyH.cons (o := { dst := some 107, op := Op.call { callee := Callee.value (Operand.func 20), args := #[Operand.tmp 102, Operand.tmp 106], argTypes := #[29, 29] }, type := 4, pos := "laws.go:384", after := #[{ on := 3, ground := Ground.data }, { on := 7, ground := Ground.data }, { on := 2, ground := Ground.chain }, { on := 2, ground := Ground.guard }], guard := some (2, false) }) rfl (fun K hK => ?_) AllReadyH.nil
          go_simp
          refine (SA.out _ hHeld.1).mono ?_
          rintro r wvmy8 ⟨rfl, hy⟩
          have hz : Below zk.heap.size zk wvmy8 := grow_on hHeld.1 hy
          clear hHeld hy
          refine hK.out _ _ (HS.out _ hz) (fun hHeld => ?_)
          clear hK K hz
          try simp only [Act.put, List.setIfInBounds_toArray, List.set_cons_zero, List.set_cons_succ]
          refine wpAnyH_take (i := 9) (oi := { dst := some 108, op := Op.unOp UnOp.not 4 (Operand.tmp 107), type := 4, pos := "laws.go:384", after := #[{ on := 8, ground := Ground.data }, { on := 2, ground := Ground.guard }], guard := some (2, false) }) (v := ?vmy9) rfl (by kernel_rfl) (by kernel_rfl) (by kernel_rfl) (fun _ _ _ h => h) (Or.inl ⟨by rfl, ?hymy9⟩) hHeld ?_
          case hymy9 => (intro w hSw; (try dsimp only at hSw); go_simp <;> with_reducible rfl)
          try simp only [Act.put, List.setIfInBounds_toArray, List.set_cons_zero, List.set_cons_succ]
          refine wpAnyH_take (i := 10) (oi := { dst := some 109, op := Op.pick (Operand.tmp 101) (Operand.const (Value.bool true)) (Operand.tmp 108), type := 4, pos := "laws.go:384", after := #[{ on := 2, ground := Ground.data }, { on := 9, ground := Ground.data }], guard := none }) (v := ?vmy10) rfl (by kernel_rfl) (by kernel_rfl) (by kernel_rfl) (fun _ _ _ h => h) (Or.inl ⟨by rfl, ?hymy10⟩) hHeld ?_
          case hymy10 => (intro w hSw; (try dsimp only at hSw); go_simp <;> with_reducible rfl)
          try simp only [Act.put, List.setIfInBounds_toArray, List.set_cons_zero, List.set_cons_succ]
          refine wpAnyH_take (i := 11) (oi := { dst := some 110, op := Op.move (Operand.tmp 109), type := 4, pos := "laws.go:384", after := #[{ on := 10, ground := Ground.data }, { on := 8, ground := Ground.chain }], guard := none }) (v := ?vmy11) rfl (by kernel_rfl) (by kernel_rfl) (by kernel_rfl) (fun _ _ _ h => h) (Or.inl ⟨by rfl, ?hymy11⟩) hHeld ?_
          case hymy11 => (intro w hSw; (try dsimp only at hSw); go_simp <;> with_reducible rfl)
          try simp only [Act.put, List.setIfInBounds_toArray, List.set_cons_zero, List.set_cons_succ]
          refine wpAnyH_take (i := 12) (oi := { dst := some 111, op := Op.move (Operand.tmp 12), type := 3, pos := "laws.go:384", after := #[{ on := 11, ground := Ground.guard }], guard := some (11, false) }) (v := ?vmy12) rfl (by kernel_rfl) (by kernel_rfl) (by kernel_rfl) (fun _ _ _ h => h) (Or.inl ⟨by rfl, ?hymy12⟩) hHeld ?_
          case hymy12 => (intro w hSw; (try dsimp only at hSw); go_simp <;> with_reducible rfl)
          try simp only [Act.put, List.setIfInBounds_toArray, List.set_cons_zero, List.set_cons_succ]
          refine wpAnyH_take (i := 13) (oi := { dst := some 112, op := Op.binOp BinOp.gtr 3 (Operand.tmp 111) (Operand.const (Value.int IntKind.i64 0)) 3, type := 4, pos := "laws.go:384", after := #[{ on := 12, ground := Ground.data }, { on := 11, ground := Ground.guard }], guard := some (11, false) }) (v := .bool true) rfl (by kernel_rfl) (by kernel_rfl) (by kernel_rfl) (fun _ _ _ h => h) (Or.inl ⟨by rfl, ?hymy13⟩) hHeld ?_
          case hymy13 => (intro w hSw; (try dsimp only at hSw); go_simp <;> first | done | exact HM0.out | exact hg1 | exact HW1.out | (have h := HW1.out; unfold IntKind.wrap at h; exact h))
          try simp only [Act.put, List.setIfInBounds_toArray, List.set_cons_zero, List.set_cons_succ]
          refine wpAnyH_take (i := 14) (oi := { dst := some 113, op := Op.move (Operand.tmp 112), type := 4, pos := "laws.go:384", after := #[{ on := 13, ground := Ground.data }, { on := 11, ground := Ground.chain }, { on := 11, ground := Ground.guard }], guard := some (11, false) }) (v := ?vmy14) rfl (by kernel_rfl) (by kernel_rfl) (by kernel_rfl) (fun _ _ _ h => h) (Or.inl ⟨by rfl, ?hymy14⟩) hHeld ?_
          case hymy14 => (intro w hSw; (try dsimp only at hSw); go_simp <;> with_reducible rfl)
          try simp only [Act.put, List.setIfInBounds_toArray, List.set_cons_zero, List.set_cons_succ]
          refine wpAnyH_take (i := 15) (oi := { dst := some 114, op := Op.move (Operand.tmp 11), type := 40, pos := "laws.go:384", after := #[{ on := 14, ground := Ground.guard }], guard := some (14, true) }) (v := ?vmy15) rfl (by kernel_rfl) (by kernel_rfl) (by kernel_rfl) (fun _ _ _ h => h) (Or.inl ⟨by rfl, ?hymy15⟩) hHeld ?_
          case hymy15 => (intro w hSw; (try dsimp only at hSw); go_simp <;> with_reducible rfl)
          try simp only [Act.put, List.setIfInBounds_toArray, List.set_cons_zero, List.set_cons_succ]
          refine wpAnyH_take (i := 16) (oi := { dst := some 115, op := Op.move (Operand.tmp 12), type := 3, pos := "laws.go:384", after := #[{ on := 14, ground := Ground.guard }], guard := some (14, true) }) (v := ?vmy16) rfl (by kernel_rfl) (by kernel_rfl) (by kernel_rfl) (fun _ _ _ h => h) (Or.inl ⟨by rfl, ?hymy16⟩) hHeld ?_
          case hymy16 => (intro w hSw; (try dsimp only at hSw); go_simp <;> with_reducible rfl)
          try simp only [Act.put, List.setIfInBounds_toArray, List.set_cons_zero, List.set_cons_succ]
          refine wpAnyH_take (i := 17) (oi := { dst := some 116, op := Op.binOp BinOp.sub 3 (Operand.tmp 115) (Operand.const (Value.int IntKind.i64 1)) 3, type := 3, pos := "laws.go:384", after := #[{ on := 16, ground := Ground.data }, { on := 14, ground := Ground.guard }], guard := some (14, true) }) (v := .int .i64 j) rfl (by kernel_rfl) (by kernel_rfl) (by kernel_rfl) (fun _ _ _ h => h) (Or.inl ⟨by rfl, ?hymy17⟩) hHeld ?_
          case hymy17 => (intro w hSw; (try dsimp only at hSw); go_simp <;> first | done | exact HM0.out | exact hg1 | exact HW1.out | (have h := HW1.out; unfold IntKind.wrap at h; exact h))
          try simp only [Act.put, List.setIfInBounds_toArray, List.set_cons_zero, List.set_cons_succ]
          refine wpAnyH_take (i := 18) (oi := { dst := some 117, op := Op.indexAddr 40 (Operand.tmp 114) (Operand.tmp 116), type := 0, pos := "laws.go:384", after := #[{ on := 15, ground := Ground.data }, { on := 17, ground := Ground.data }, { on := 14, ground := Ground.guard }], guard := some (14, true) }) (v := ?vmy18) rfl (by kernel_rfl) (by kernel_rfl) (by kernel_rfl) (fun _ _ _ h => h) (Or.inl ⟨by rfl, ?hymy18⟩) hHeld ?_
          case hymy18 => (intro w hSw; (try dsimp only at hSw); go_simp <;> with_reducible rfl)
          try simp only [Act.put, List.setIfInBounds_toArray, List.set_cons_zero, List.set_cons_succ]
          refine wpAnyH_take (i := 19) (oi := { dst := some 118, op := Op.fieldAddr 29 (Operand.tmp 117) 0, type := 0, pos := "laws.go:384", after := #[{ on := 18, ground := Ground.data }, { on := 14, ground := Ground.guard }], guard := some (14, true) }) (v := ?vmy19) rfl (by kernel_rfl) (by kernel_rfl) (by kernel_rfl) (fun _ _ _ h => h) (Or.inl ⟨by rfl, ?hymy19⟩) hHeld ?_
          case hymy19 => (intro w hSw; (try dsimp only at hSw); go_simp <;> with_reducible rfl)
          try simp only [Act.put, List.setIfInBounds_toArray, List.set_cons_zero, List.set_cons_succ]
          refine wpAnyH_take (i := 20) (oi := { dst := some 119, op := Op.load 27 (Operand.tmp 118), type := 27, pos := "laws.go:384", after := #[{ on := 19, ground := Ground.data }, { on := 14, ground := Ground.guard }], guard := some (14, true) }) (v := ?vmy20) rfl (by kernel_rfl) (by kernel_rfl) (by kernel_rfl) (fun _ _ _ h => h) (Or.inl ⟨by rfl, ?hymy20⟩) hHeld ?_
          case hymy20 => (intro w hSw; (try dsimp only at hSw); go_simp <;> with_reducible rfl)
          try simp only [Act.put, List.setIfInBounds_toArray, List.set_cons_zero, List.set_cons_succ]
          refine wpAnyH_take (i := 21) (oi := { dst := some 120, op := Op.move (Operand.tmp 11), type := 40, pos := "laws.go:384", after := #[{ on := 14, ground := Ground.guard }], guard := some (14, true) }) (v := ?vmy21) rfl (by kernel_rfl) (by kernel_rfl) (by kernel_rfl) (fun _ _ _ h => h) (Or.inl ⟨by rfl, ?hymy21⟩) hHeld ?_
          case hymy21 => (intro w hSw; (try dsimp only at hSw); go_simp <;> with_reducible rfl)
          try simp only [Act.put, List.setIfInBounds_toArray, List.set_cons_zero, List.set_cons_succ]
          refine wpAnyH_take (i := 22) (oi := { dst := some 121, op := Op.move (Operand.tmp 12), type := 3, pos := "laws.go:384", after := #[{ on := 14, ground := Ground.guard }], guard := some (14, true) }) (v := ?vmy22) rfl (by kernel_rfl) (by kernel_rfl) (by kernel_rfl) (fun _ _ _ h => h) (Or.inl ⟨by rfl, ?hymy22⟩) hHeld ?_
          case hymy22 => (intro w hSw; (try dsimp only at hSw); go_simp <;> with_reducible rfl)
          try simp only [Act.put, List.setIfInBounds_toArray, List.set_cons_zero, List.set_cons_succ]
          refine wpAnyH_take (i := 23) (oi := { dst := some 122, op := Op.indexAddr 40 (Operand.tmp 120) (Operand.tmp 121), type := 0, pos := "laws.go:384", after := #[{ on := 21, ground := Ground.data }, { on := 22, ground := Ground.data }, { on := 14, ground := Ground.guard }], guard := some (14, true) }) (v := ?vmy23) rfl (by kernel_rfl) (by kernel_rfl) (by kernel_rfl) (fun _ _ _ h => h) (Or.inl ⟨by rfl, ?hymy23⟩) hHeld ?_
          case hymy23 => (intro w hSw; (try dsimp only at hSw); go_simp <;> with_reducible rfl)
          try simp only [Act.put, List.setIfInBounds_toArray, List.set_cons_zero, List.set_cons_succ]
          refine wpAnyH_take (i := 24) (oi := { dst := some 123, op := Op.fieldAddr 29 (Operand.tmp 122) 0, type := 0, pos := "laws.go:384", after := #[{ on := 23, ground := Ground.data }, { on := 14, ground := Ground.guard }], guard := some (14, true) }) (v := ?vmy24) rfl (by kernel_rfl) (by kernel_rfl) (by kernel_rfl) (fun _ _ _ h => h) (Or.inl ⟨by rfl, ?hymy24⟩) hHeld ?_
          case hymy24 => (intro w hSw; (try dsimp only at hSw); go_simp <;> with_reducible rfl)
          try simp only [Act.put, List.setIfInBounds_toArray, List.set_cons_zero, List.set_cons_succ]
          refine wpAnyH_take (i := 25) (oi := { dst := some 124, op := Op.load 27 (Operand.tmp 123), type := 27, pos := "laws.go:384", after := #[{ on := 24, ground := Ground.data }, { on := 14, ground := Ground.guard }], guard := some (14, true) }) (v := ?vmy25) rfl (by kernel_rfl) (by kernel_rfl) (by kernel_rfl) (fun _ _ _ h => h) (Or.inl ⟨by rfl, ?hymy25⟩) hHeld ?_
          case hymy25 => (intro w hSw; (try dsimp only at hSw); go_simp <;> with_reducible rfl)
          try simp only [Act.put, List.setIfInBounds_toArray, List.set_cons_zero, List.set_cons_succ]
          refine wpAnyH_ready (rs := [26]) (by kernel_rfl) (by simp) ?_
          refine AllReadyH.cons (o := { dst := some 125, op := Op.call { callee := Callee.value (Operand.func 34), args := #[Operand.tmp 119, Operand.tmp 124], argTypes := #[27, 27] }, type := 4, pos := "laws.go:384", after := #[{ on := 20, ground := Ground.data }, { on := 25, ground := Ground.data }, { on := 14, ground := Ground.chain }, { on := 14, ground := Ground.guard }], guard := some (14, true) }) rfl (fun K hK => ?_) AllReadyH.nil
          go_simp
          refine (HLS.out _ hHeld.1).mono ?_
          rintro r wvmy26 ⟨rfl, hy⟩
          have hz : Below zk.heap.size zk wvmy26 := grow_on hHeld.1 hy
          clear hHeld hy
          refine hK.out _ _ (HS.out _ hz) (fun hHeld => ?_)
          clear hK K hz
          try simp only [Act.put, List.setIfInBounds_toArray, List.set_cons_zero, List.set_cons_succ]
          refine wpAnyH_take (i := 27) (oi := { dst := some 126, op := Op.unOp UnOp.not 4 (Operand.tmp 125), type := 4, pos := "laws.go:384", after := #[{ on := 26, ground := Ground.data }, { on := 14, ground := Ground.guard }], guard := some (14, true) }) (v := ?vmy27) rfl (by kernel_rfl) (by kernel_rfl) (by kernel_rfl) (fun _ _ _ h => h) (Or.inl ⟨by rfl, ?hymy27⟩) hHeld ?_
          case hymy27 => (intro w hSw; (try dsimp only at hSw); go_simp <;> with_reducible rfl)
          try simp only [Act.put, List.setIfInBounds_toArray, List.set_cons_zero, List.set_cons_succ]
          refine wpAnyH_take (i := 28) (oi := { dst := some 127, op := Op.pick (Operand.tmp 113) (Operand.tmp 126) (Operand.const (Value.bool false)), type := 4, pos := "laws.go:384", after := #[{ on := 14, ground := Ground.data }, { on := 27, ground := Ground.data }, { on := 11, ground := Ground.guard }], guard := some (11, false) }) (v := ?vmy28) rfl (by kernel_rfl) (by kernel_rfl) (by kernel_rfl) (fun _ _ _ h => h) (Or.inl ⟨by rfl, ?hymy28⟩) hHeld ?_
          case hymy28 => (intro w hSw; (try dsimp only at hSw); go_simp <;> with_reducible rfl)
          try simp only [Act.put, List.setIfInBounds_toArray, List.set_cons_zero, List.set_cons_succ]
          refine wpAnyH_take (i := 29) (oi := { dst := some 128, op := Op.pick (Operand.tmp 110) (Operand.const (Value.bool true)) (Operand.tmp 127), type := 4, pos := "laws.go:384", after := #[{ on := 11, ground := Ground.data }, { on := 28, ground := Ground.data }], guard := none }) (v := ?vmy29) rfl (by kernel_rfl) (by kernel_rfl) (by kernel_rfl) (fun _ _ _ h => h) (Or.inl ⟨by rfl, ?hymy29⟩) hHeld ?_
          case hymy29 => (intro w hSw; (try dsimp only at hSw); go_simp <;> with_reducible rfl)
          try simp only [Act.put, List.setIfInBounds_toArray, List.set_cons_zero, List.set_cons_succ]
          refine wpAnyH_done (by kernel_rfl) ?_ _
          have HV2 : Hid (Below wvmr34.heap.size wvmr34 wvmy26) := grow_on HZZ.out hHeld.1
          clear hHeld HS kz SA HLS
          go_wp2
          go_roundw
          case rel => exact ⟨m + 1, by go_num, by omega, HV2.out⟩
          case measure => simp [intOf]; omega
      ·
        have hge : ¬ (m : Int) < (P.length : Int) := by omega
        go_upto_region 19 with fail
        have HBw : Hid (Below w.heap.size w wr) := grow_on B_wvmr34.out HW.out
        have HRX : Hid (St 8 wr (some ⟨Mx, 0, none⟩) Q) := RX_wvmr34.out.below HW.out
        have HRS : Hid (St 7 wr (some ⟨Ms, 0, none⟩) S) := DS_wvmr34.out.below HW.out
        have HS : Hid (∀ w', Below wr.heap.size wr w' → Below wr.heap.size wr w' ∧ True) := fun w' h => ⟨h, trivial⟩
        have kz : Below wr.heap.size wr wr.drew := (Below.refl _ _).drew
        obtain ⟨nq, hnq⟩ : ∃ nq, cntT Q = nq := ⟨_, rfl⟩
        obtain ⟨ns, hns⟩ : ∃ ns, cntT S = ns := ⟨_, rfl⟩
        have hcnt : nq = ns + 1 := by
          have h := cntT_put (S := S) x (by have := FX.out.2.2.rst.len; omega)
          rw [EQ.out.1, EQ.out.2, hnq, hns] at h
          simpa using h
        have hPn : P.length = nq := FP.out.1.trans hnq
        have hw1 : ((P.length : Int) == (nq : Int)) = true := by rw [hPn]; simp
        have hw2 : IntKind.i64.wrap ((ns : Int) + 1) = (nq : Int) := by rw [IntKind.wrap_i64]; omega
        have hw3 : ((nq : Int) == (nq : Int)) = true := by simp
        have C1 : Hid (∀ (u : World), Below wr.heap.size wr u → Calls Tryz.prog 35 #[.slice (some ⟨Mx, 0, none⟩) Q.length cx] u fun r w' => r = .returned (.int .i64 nq) ∧ Below u.heap.size u w') := fun u hu => countR _ cx Q u (HRX.out.below hu) hnq
        have C2 : Hid (∀ (u : World), Below wr.heap.size wr u → Calls Tryz.prog 35 #[.slice (some ⟨Ms, 0, none⟩) S.length cs] u fun r w' => r = .returned (.int .i64 ns) ∧ Below u.heap.size u w') := fun u hu => countR _ cs S u (HRS.out.below hu) hns
        have HCN : Hid (nq = ns + 1 ∧ nq ≤ 1000) := ⟨hcnt, by omega⟩
        clear hcnt hPn hnq hns hge hmA hlt
        clear HS kz
        go_wp2_with fail
        refine (C1.out _ (Below.refl _ _)).mono ?_
        rintro r u1 ⟨rfl, h1⟩
        have K1 : Hid (Below wr.heap.size wr u1) := h1
        clear h1
        go_wp2_with fail
        refine (C1.out _ K1.out).mono ?_
        rintro r u2 ⟨rfl, h1⟩
        have K2 : Hid (Below wr.heap.size wr u2) := grow_on K1.out h1
        clear h1
        go_wp2_with fail
        refine (C2.out _ K2.out).mono ?_
        rintro r u3 ⟨rfl, h1⟩
        have K3 : Hid (Below wr.heap.size wr u3) := grow_on K2.out h1
        clear h1
        go_wp2
        go_ret
        refine ⟨?_, grow_on HBw.out K3.out⟩
        first | rfl | (simp; done) | (simp; have h := HCN.out; unfold wrap64; omega)
  ·
    have en : nu = false := EQ.out.2.symm.trans h2
    subst en
    have EF : Hid (findSD S x.l = y ∧ (findS S x.l).isSome = true ∧ findSD Q x.l = (⟨x.l, startB y.s y.e x.s x.e, x.e, x.n⟩ : PAl) ∧ (findS Q x.l).isSome = true) := by
      have h4 : findS Q x.l = some (⟨x.l, startB y.s y.e x.s x.e, x.e, x.n⟩ : PAl) := by rw [← EQ.out.1]; exact h3
      exact ⟨by unfold findSD; rw [h1]; rfl, by rw [h1]; rfl, by unfold findSD; rw [h4]; rfl, by rw [h4]; rfl⟩
    clear h1 h2 h3
    have cbA0 : w2.cell? ⟨w1.heap.size, 0, none⟩ = some (.slice (some ⟨ga, 0, none⟩) x.l.length ca) := bA_w2.out.cell 0
    have cbA1 : w2.cell? ⟨w1.heap.size, 1, none⟩ = some (.int .i64 x.s) := bA_w2.out.cell 1
    have cbA2 : w2.cell? ⟨w1.heap.size, 2, none⟩ = some (.int .i64 x.e) := bA_w2.out.cell 2
    have cbA3 : w2.cell? ⟨w1.heap.size, 3, none⟩ = some (.string x.n) := bA_w2.out.cell 3
    go_wp2_with fail
    refine (findR _ _ cs ca S x.l _ DS_w2.out DX_w2.out.1 FX.out.1.2 FX.out.1.1.fits EF.out.1 EF.out.2.1).mono ?_
    rintro e w3 ⟨⟨bo, co', rfl, hr⟩, hb⟩
    clear cbA0 cbA1 cbA2 cbA3
    clear hr
    have B_w3 : Hid (Below w.heap.size w w3) := grow_on B_w2.out hb
    have DS_w3 : Hid (St 7 w3 (some ⟨Ms, 0, none⟩) S) := DS_w2.out.below hb
    have DX_w3 : Hid (DAl w3 ga x) := DX_w2.out.below hb
    have bA_w3 : Hid (Blk w3 w1.heap.size #[.slice (some ⟨ga, 0, none⟩) x.l.length ca, .int .i64 x.s, .int .i64 x.e, .string x.n] 29) := bA_w2.out.grow hb
    have RX_w3 : Hid (St 8 w3 (some ⟨Mx, 0, none⟩) Q) := RX_w2.out.below hb
    clear B_w2 DS_w2 DX_w2 bA_w2 RX_w2
    clear hb
    go_upto_region 6 with fail
    generalize hz : w3.alloc (.cells #[.slice bo y.l.length co', .int .i64 y.s, .int .i64 y.e, .string y.n] 29) = z3
    have hbz : Below w3.heap.size w3 z3 := by rw [← hz]; exact Go.Joins.below_alloc1 w3 _
    have bOld_z3 : Hid (Blk z3 w3.heap.size #[.slice bo y.l.length co', .int .i64 y.s, .int .i64 y.e, .string y.n] 29) := by rw [← hz]; exact (Blk.new _ _ _)
    clear hz
    have B_z3 : Hid (Below w.heap.size w z3) := grow_on B_w3.out hbz
    have DS_z3 : Hid (St 7 z3 (some ⟨Ms, 0, none⟩) S) := DS_w3.out.below hbz
    have DX_z3 : Hid (DAl z3 ga x) := DX_w3.out.below hbz
    have bA_z3 : Hid (Blk z3 w1.heap.size #[.slice (some ⟨ga, 0, none⟩) x.l.length ca, .int .i64 x.s, .int .i64 x.e, .string x.n] 29) := bA_w3.out.grow hbz
    have RX_z3 : Hid (St 8 z3 (some ⟨Mx, 0, none⟩) Q) := RX_w3.out.below hbz
    clear B_w3 DS_w3 DX_w3 bA_w3 RX_w3
    clear hbz
    have cbA0 : z3.cell? ⟨w1.heap.size, 0, none⟩ = some (.slice (some ⟨ga, 0, none⟩) x.l.length ca) := bA_z3.out.cell 0
    have cbA1 : z3.cell? ⟨w1.heap.size, 1, none⟩ = some (.int .i64 x.s) := bA_z3.out.cell 1
    have cbA2 : z3.cell? ⟨w1.heap.size, 2, none⟩ = some (.int .i64 x.e) := bA_z3.out.cell 2
    have cbA3 : z3.cell? ⟨w1.heap.size, 3, none⟩ = some (.string x.n) := bA_z3.out.cell 3
    go_wp2_with fail
    refine ((findR _ _ cx ca Q x.l _ RX_z3.out DX_z3.out.1 FX.out.1.2 FX.out.1.1.fits EF.out.2.2.1 EF.out.2.2.2)).mono ?_
    rintro e w4 ⟨⟨bz, cz, rfl, hr⟩, hb⟩
    clear cbA0 cbA1 cbA2 cbA3
    have NRZ : Hid (Reads w4 bz x.l) := hr
    have B_w4 : Hid (Below w.heap.size w w4) := grow_on B_z3.out hb
    have DS_w4 : Hid (St 7 w4 (some ⟨Ms, 0, none⟩) S) := DS_z3.out.below hb
    have DX_w4 : Hid (DAl w4 ga x) := DX_z3.out.below hb
    have bA_w4 : Hid (Blk w4 w1.heap.size #[.slice (some ⟨ga, 0, none⟩) x.l.length ca, .int .i64 x.s, .int .i64 x.e, .string x.n] 29) := bA_z3.out.grow hb
    have RX_w4 : Hid (St 8 w4 (some ⟨Mx, 0, none⟩) Q) := RX_z3.out.below hb
    have bOld_w4 : Hid (Blk w4 w3.heap.size #[.slice bo y.l.length co', .int .i64 y.s, .int .i64 y.e, .string y.n] 29) := bOld_z3.out.grow hb
    clear B_z3 DS_z3 DX_z3 bA_z3 RX_z3 bOld_z3
    have RZ_w4 : Hid (Reads w4 bz x.l) := NRZ.out
    clear NRZ
    clear hb
    go_upto_region 7 with fail
    generalize hz : w4.alloc (.cells #[.slice bz x.l.length cz, .int .i64 (startB y.s y.e x.s x.e), .int .i64 x.e, .string x.n] 29) = z4
    have hbz : Below w4.heap.size w4 z4 := by rw [← hz]; exact Go.Joins.below_alloc1 w4 _
    have bZ_z4 : Hid (Blk z4 w4.heap.size #[.slice bz x.l.length cz, .int .i64 (startB y.s y.e x.s x.e), .int .i64 x.e, .string x.n] 29) := by rw [← hz]; exact (Blk.new _ _ _)
    clear hz
    have B_z4 : Hid (Below w.heap.size w z4) := grow_on B_w4.out hbz
    have DS_z4 : Hid (St 7 z4 (some ⟨Ms, 0, none⟩) S) := DS_w4.out.below hbz
    have DX_z4 : Hid (DAl z4 ga x) := DX_w4.out.below hbz
    have bA_z4 : Hid (Blk z4 w1.heap.size #[.slice (some ⟨ga, 0, none⟩) x.l.length ca, .int .i64 x.s, .int .i64 x.e, .string x.n] 29) := bA_w4.out.grow hbz
    have RX_z4 : Hid (St 8 z4 (some ⟨Mx, 0, none⟩) Q) := RX_w4.out.below hbz
    have bOld_z4 : Hid (Blk z4 w3.heap.size #[.slice bo y.l.length co', .int .i64 y.s, .int .i64 y.e, .string y.n] 29) := bOld_w4.out.grow hbz
    have RZ_z4 : Hid (Reads z4 bz x.l) := RZ_w4.out.below hbz
    clear B_w4 DS_w4 DX_w4 bA_w4 RX_w4 bOld_w4 RZ_w4
    clear hbz
    go_wp2_with fail
    refine (allR _ cx Q _ RX_z4.out EP.out).mono ?_
    rintro e w5 ⟨⟨Ml, cl, rfl, hr⟩, hb⟩
    have NRL : Hid (RdN w5 (some ⟨Ml, 0, none⟩) P) := hr
    have B_w5 : Hid (Below w.heap.size w w5) := grow_on B_z4.out hb
    have DS_w5 : Hid (St 7 w5 (some ⟨Ms, 0, none⟩) S) := DS_z4.out.below hb
    have DX_w5 : Hid (DAl w5 ga x) := DX_z4.out.below hb
    have bA_w5 : Hid (Blk w5 w1.heap.size #[.slice (some ⟨ga, 0, none⟩) x.l.length ca, .int .i64 x.s, .int .i64 x.e, .string x.n] 29) := bA_z4.out.grow hb
    have RX_w5 : Hid (St 8 w5 (some ⟨Mx, 0, none⟩) Q) := RX_z4.out.below hb
    have bOld_w5 : Hid (Blk w5 w3.heap.size #[.slice bo y.l.length co', .int .i64 y.s, .int .i64 y.e, .string y.n] 29) := bOld_z4.out.grow hb
    have RZ_w5 : Hid (Reads w5 bz x.l) := RZ_z4.out.below hb
    have bZ_w5 : Hid (Blk w5 w4.heap.size #[.slice bz x.l.length cz, .int .i64 (startB y.s y.e x.s x.e), .int .i64 x.e, .string x.n] 29) := bZ_z4.out.grow hb
    clear B_z4 DS_z4 DX_z4 bA_z4 RX_z4 bOld_z4 RZ_z4 bZ_z4
    have RL_w5 : Hid (RdN w5 (some ⟨Ml, 0, none⟩) P) := NRL.out
    clear NRL
    clear hb
    go_upto_region 8 with fail
    have HS : Hid (∀ w', Below w5.heap.size w5 w' → Below w5.heap.size w5 w' ∧ w'.cell? ⟨w1.heap.size, 0, none⟩ = some (.slice (some ⟨ga, 0, none⟩) x.l.length ca) ∧ w'.cell? ⟨w1.heap.size, 1, none⟩ = some (.int .i64 x.s) ∧ w'.cell? ⟨w1.heap.size, 2, none⟩ = some (.int .i64 x.e) ∧ w'.cell? ⟨w1.heap.size, 3, none⟩ = some (.string x.n) ∧ w'.cell? ⟨w3.heap.size, 0, none⟩ = some (.slice bo y.l.length co') ∧ w'.cell? ⟨w3.heap.size, 1, none⟩ = some (.int .i64 y.s) ∧ w'.cell? ⟨w3.heap.size, 2, none⟩ = some (.int .i64 y.e) ∧ w'.cell? ⟨w3.heap.size, 3, none⟩ = some (.string y.n) ∧ w'.cell? ⟨w4.heap.size, 0, none⟩ = some (.slice bz x.l.length cz) ∧ w'.cell? ⟨w4.heap.size, 1, none⟩ = some (.int .i64 (startB y.s y.e x.s x.e)) ∧ w'.cell? ⟨w4.heap.size, 2, none⟩ = some (.int .i64 x.e) ∧ w'.cell? ⟨w4.heap.size, 3, none⟩ = some (.string x.n)) := fun w' h => ⟨h, (bA_w5.out.grow h).cell 0, (bA_w5.out.grow h).cell 1, (bA_w5.out.grow h).cell 2, (bA_w5.out.grow h).cell 3, (bOld_w5.out.grow h).cell 0, (bOld_w5.out.grow h).cell 1, (bOld_w5.out.grow h).cell 2, (bOld_w5.out.grow h).cell 3, (bZ_w5.out.grow h).cell 0, (bZ_w5.out.grow h).cell 1, (bZ_w5.out.grow h).cell 2, (bZ_w5.out.grow h).cell 3⟩
    have kz : Below w5.heap.size w5 w5.drew := (Below.refl _ _).drew
    have O1 : Hid (∀ (u : World), Below w5.heap.size w5 u → Calls Tryz.prog 33 #[.slice (some ⟨Ms, 0, none⟩) S.length cs] u fun r w' => r = .returned (.bool true) ∧ Below u.heap.size u w') := fun u hu => storeR _ cs S u (DS_w5.out.below hu)
    have O2 : Hid (∀ (u : World), Below w5.heap.size w5 u → Calls Tryz.prog 33 #[.slice (some ⟨Mx, 0, none⟩) Q.length cx] u fun r w' => r = .returned (.bool true) ∧ Below u.heap.size u w') := fun u hu => storeR _ cx Q u (RX_w5.out.below hu)
    have MG : Hid (∀ (u : World), Below w5.heap.size w5 u → Calls Tryz.prog 25 #[.agg #[.slice bo y.l.length co', .int .i64 y.s, .int .i64 y.e, .string y.n], .agg #[.slice (some ⟨ga, 0, none⟩) x.l.length ca, .int .i64 x.s, .int .i64 x.e, .string x.n]] u fun r w' => (∃ M' c', r = .returned (.agg #[.slice (some ⟨M', 0, none⟩) x.l.length c', .int .i64 (startB y.s y.e x.s x.e), .int .i64 x.e, .string x.n]) ∧ LabR.Own u w' M' x.l) ∧ Below u.heap.size u w') := fun u hu => implMerge_any _ _ _ _ _ _ _ _ _ _ _ _ _ u (DX_w5.out.1.below hu) (by have := FX.out.1.2; omega)
    have SMX : Hid (∀ (u : World) (M' c' : Nat), Below w5.heap.size w5 u → Reads u (some ⟨M', 0, none⟩) x.l → Calls Tryz.prog 20 #[.agg #[.slice bz x.l.length cz, .int .i64 (startB y.s y.e x.s x.e), .int .i64 x.e, .string x.n], .agg #[.slice (some ⟨M', 0, none⟩) x.l.length c', .int .i64 (startB y.s y.e x.s x.e), .int .i64 x.e, .string x.n]] u fun r w' => r = .returned (.bool true) ∧ Below u.heap.size u w') := fun u M' c' hu hr => (implSameA_any _ _ _ _ x.l x.l _ _ _ _ _ _ u (RZ_w5.out.below hu) hr (fine_max FX.out.1) (fine_max FX.out.1)).mono fun e w' h => ⟨h.1.trans (retB (Alm.same_self _ _ _ _)), h.2⟩
    refine wp_region_held_drew (S := fun w' => Below w5.heap.size w5 w' ∧ w'.cell? ⟨w1.heap.size, 0, none⟩ = some (.slice (some ⟨ga, 0, none⟩) x.l.length ca) ∧ w'.cell? ⟨w1.heap.size, 1, none⟩ = some (.int .i64 x.s) ∧ w'.cell? ⟨w1.heap.size, 2, none⟩ = some (.int .i64 x.e) ∧ w'.cell? ⟨w1.heap.size, 3, none⟩ = some (.string x.n) ∧ w'.cell? ⟨w3.heap.size, 0, none⟩ = some (.slice bo y.l.length co') ∧ w'.cell? ⟨w3.heap.size, 1, none⟩ = some (.int .i64 y.s) ∧ w'.cell? ⟨w3.heap.size, 2, none⟩ = some (.int .i64 y.e) ∧ w'.cell? ⟨w3.heap.size, 3, none⟩ = some (.string y.n) ∧ w'.cell? ⟨w4.heap.size, 0, none⟩ = some (.slice bz x.l.length cz) ∧ w'.cell? ⟨w4.heap.size, 1, none⟩ = some (.int .i64 (startB y.s y.e x.s x.e)) ∧ w'.cell? ⟨w4.heap.size, 2, none⟩ = some (.int .i64 x.e) ∧ w'.cell? ⟨w4.heap.size, 3, none⟩ = some (.string x.n)) (by kernel_rfl) (HS.out _ kz) (fun hHeld => ?_)
    refine wpAnyH_take (i := 0) (oi := { dst := some 45, op := Op.move (Operand.tmp 3), type := 54, pos := "laws.go:379", after := #[], guard := none }) (v := ?vhr0) rfl (by kernel_rfl) (by kernel_rfl) (by kernel_rfl) (fun _ _ _ h => h) (Or.inl ⟨by rfl, ?hyhr0⟩) hHeld ?_
    case hyhr0 => (intro w hSw; (try dsimp only at hSw); go_simp <;> with_reducible rfl)
    try simp only [Act.put, List.setIfInBounds_toArray, List.set_cons_zero, List.set_cons_succ]
    refine wpAnyH_ready (rs := [1]) (by kernel_rfl) (by simp) ?_
    refine AllReadyH.cons (o := { dst := some 46, op := Op.call { callee := Callee.value (Operand.func 33), args := #[Operand.tmp 45], argTypes := #[54] }, type := 4, pos := "laws.go:379", after := #[{ on := 0, ground := Ground.data }], guard := none }) rfl (fun K hK => ?_) AllReadyH.nil
    go_simp
    refine (O1.out _ hHeld.1).mono ?_
    rintro r wvhr1 ⟨rfl, hy⟩
    have hz : Below w5.heap.size w5 wvhr1 := grow_on hHeld.1 hy
    clear hHeld hy
    refine hK.out _ _ (HS.out _ hz) (fun hHeld => ?_)
    clear hK K hz
    try simp only [Act.put, List.setIfInBounds_toArray, List.set_cons_zero, List.set_cons_succ]
    refine wpAnyH_take (i := 2) (oi := { dst := some 47, op := Op.unOp UnOp.not 4 (Operand.tmp 46), type := 4, pos := "laws.go:379", after := #[{ on := 1, ground := Ground.data }], guard := none }) (v := ?vhr2) rfl (by kernel_rfl) (by kernel_rfl) (by kernel_rfl) (fun _ _ _ h => h) (Or.inl ⟨by rfl, ?hyhr2⟩) hHeld ?_
    case hyhr2 => (intro w hSw; (try dsimp only at hSw); go_simp <;> with_reducible rfl)
    try simp only [Act.put, List.setIfInBounds_toArray, List.set_cons_zero, List.set_cons_succ]
    refine wpAnyH_take (i := 3) (oi := { dst := some 48, op := Op.move (Operand.tmp 47), type := 4, pos := "laws.go:379", after := #[{ on := 2, ground := Ground.data }, { on := 1, ground := Ground.chain }], guard := none }) (v := ?vhr3) rfl (by kernel_rfl) (by kernel_rfl) (by kernel_rfl) (fun _ _ _ h => h) (Or.inl ⟨by rfl, ?hyhr3⟩) hHeld ?_
    case hyhr3 => (intro w hSw; (try dsimp only at hSw); go_simp <;> with_reducible rfl)
    try simp only [Act.put, List.setIfInBounds_toArray, List.set_cons_zero, List.set_cons_succ]
    refine wpAnyH_take (i := 4) (oi := { dst := some 49, op := Op.move (Operand.tmp 5), type := 54, pos := "laws.go:379", after := #[{ on := 3, ground := Ground.guard }], guard := some (3, false) }) (v := ?vhr4) rfl (by kernel_rfl) (by kernel_rfl) (by kernel_rfl) (fun _ _ _ h => h) (Or.inl ⟨by rfl, ?hyhr4⟩) hHeld ?_
    case hyhr4 => (intro w hSw; (try dsimp only at hSw); go_simp <;> with_reducible rfl)
    try simp only [Act.put, List.setIfInBounds_toArray, List.set_cons_zero, List.set_cons_succ]
    refine wpAnyH_ready (rs := [5]) (by kernel_rfl) (by simp) ?_
    refine AllReadyH.cons (o := { dst := some 50, op := Op.call { callee := Callee.value (Operand.func 33), args := #[Operand.tmp 49], argTypes := #[54] }, type := 4, pos := "laws.go:379", after := #[{ on := 4, ground := Ground.data }, { on := 3, ground := Ground.chain }, { on := 3, ground := Ground.guard }], guard := some (3, false) }) rfl (fun K hK => ?_) AllReadyH.nil
    go_simp
    refine (O2.out _ hHeld.1).mono ?_
    rintro r wvhr5 ⟨rfl, hy⟩
    have hz : Below w5.heap.size w5 wvhr5 := grow_on hHeld.1 hy
    clear hHeld hy
    refine hK.out _ _ (HS.out _ hz) (fun hHeld => ?_)
    clear hK K hz
    try simp only [Act.put, List.setIfInBounds_toArray, List.set_cons_zero, List.set_cons_succ]
    refine wpAnyH_take (i := 6) (oi := { dst := some 51, op := Op.unOp UnOp.not 4 (Operand.tmp 50), type := 4, pos := "laws.go:379", after := #[{ on := 5, ground := Ground.data }, { on := 3, ground := Ground.guard }], guard := some (3, false) }) (v := ?vhr6) rfl (by kernel_rfl) (by kernel_rfl) (by kernel_rfl) (fun _ _ _ h => h) (Or.inl ⟨by rfl, ?hyhr6⟩) hHeld ?_
    case hyhr6 => (intro w hSw; (try dsimp only at hSw); go_simp <;> with_reducible rfl)
    try simp only [Act.put, List.setIfInBounds_toArray, List.set_cons_zero, List.set_cons_succ]
    refine wpAnyH_take (i := 7) (oi := { dst := some 52, op := Op.pick (Operand.tmp 48) (Operand.const (Value.bool true)) (Operand.tmp 51), type := 4, pos := "laws.go:379", after := #[{ on := 3, ground := Ground.data }, { on := 6, ground := Ground.data }], guard := none }) (v := ?vhr7) rfl (by kernel_rfl) (by kernel_rfl) (by kernel_rfl) (fun _ _ _ h => h) (Or.inl ⟨by rfl, ?hyhr7⟩) hHeld ?_
    case hyhr7 => (intro w hSw; (try dsimp only at hSw); go_simp <;> with_reducible rfl)
    try simp only [Act.put, List.setIfInBounds_toArray, List.set_cons_zero, List.set_cons_succ]
    refine wpAnyH_take (i := 8) (oi := { dst := some 53, op := Op.move (Operand.tmp 52), type := 4, pos := "laws.go:379", after := #[{ on := 7, ground := Ground.data }, { on := 5, ground := Ground.chain }], guard := none }) (v := ?vhr8) rfl (by kernel_rfl) (by kernel_rfl) (by kernel_rfl) (fun _ _ _ h => h) (Or.inl ⟨by rfl, ?hyhr8⟩) hHeld ?_
    case hyhr8 => (intro w hSw; (try dsimp only at hSw); go_simp <;> with_reducible rfl)
    try simp only [Act.put, List.setIfInBounds_toArray, List.set_cons_zero, List.set_cons_succ]
    refine wpAnyH_take (i := 9) (oi := { dst := some 54, op := Op.move (Operand.tmp 6), type := 4, pos := "laws.go:379", after := #[{ on := 8, ground := Ground.guard }], guard := some (8, false) }) (v := ?vhr9) rfl (by kernel_rfl) (by kernel_rfl) (by kernel_rfl) (fun _ _ _ h => h) (Or.inl ⟨by rfl, ?hyhr9⟩) hHeld ?_
    case hyhr9 => (intro w hSw; (try dsimp only at hSw); go_simp <;> with_reducible rfl)
    try simp only [Act.put, List.setIfInBounds_toArray, List.set_cons_zero, List.set_cons_succ]
    refine wpAnyH_take (i := 10) (oi := { dst := some 55, op := Op.move (Operand.tmp 8), type := 4, pos := "laws.go:379", after := #[{ on := 8, ground := Ground.guard }], guard := some (8, false) }) (v := ?vhr10) rfl (by kernel_rfl) (by kernel_rfl) (by kernel_rfl) (fun _ _ _ h => h) (Or.inl ⟨by rfl, ?hyhr10⟩) hHeld ?_
    case hyhr10 => (intro w hSw; (try dsimp only at hSw); go_simp <;> with_reducible rfl)
    try simp only [Act.put, List.setIfInBounds_toArray, List.set_cons_zero, List.set_cons_succ]
    refine wpAnyH_take (i := 11) (oi := { dst := some 56, op := Op.binOp BinOp.eql 4 (Operand.tmp 54) (Operand.tmp 55) 4, type := 4, pos := "laws.go:379", after := #[{ on := 9, ground := Ground.data }, { on := 10, ground := Ground.data }, { on := 8, ground := Ground.guard }], guard := some (8, false) }) (v := ?vhr11) rfl (by kernel_rfl) (by kernel_rfl) (by kernel_rfl) (fun _ _ _ h => h) (Or.inl ⟨by rfl, ?hyhr11⟩) hHeld ?_
    case hyhr11 => (intro w hSw; (try dsimp only at hSw); go_simp <;> with_reducible rfl)
    try simp only [Act.put, List.setIfInBounds_toArray, List.set_cons_zero, List.set_cons_succ]
    refine wpAnyH_take (i := 12) (oi := { dst := some 57, op := Op.pick (Operand.tmp 53) (Operand.const (Value.bool true)) (Operand.tmp 56), type := 4, pos := "laws.go:379", after := #[{ on := 8, ground := Ground.data }, { on := 11, ground := Ground.data }], guard := none }) (v := ?vhr12) rfl (by kernel_rfl) (by kernel_rfl) (by kernel_rfl) (fun _ _ _ h => h) (Or.inl ⟨by rfl, ?hyhr12⟩) hHeld ?_
    case hyhr12 => (intro w hSw; (try dsimp only at hSw); go_simp <;> with_reducible rfl)
    try simp only [Act.put, List.setIfInBounds_toArray, List.set_cons_zero, List.set_cons_succ]
    refine wpAnyH_take (i := 13) (oi := { dst := some 58, op := Op.move (Operand.tmp 57), type := 4, pos := "laws.go:379", after := #[{ on := 12, ground := Ground.data }, { on := 8, ground := Ground.chain }], guard := none }) (v := ?vhr13) rfl (by kernel_rfl) (by kernel_rfl) (by kernel_rfl) (fun _ _ _ h => h) (Or.inl ⟨by rfl, ?hyhr13⟩) hHeld ?_
    case hyhr13 => (intro w hSw; (try dsimp only at hSw); go_simp <;> with_reducible rfl)
    try simp only [Act.put, List.setIfInBounds_toArray, List.set_cons_zero, List.set_cons_succ]
    refine wpAnyH_take (i := 14) (oi := { dst := some 59, op := Op.move (Operand.tmp 10), type := 4, pos := "laws.go:379", after := #[{ on := 13, ground := Ground.guard }], guard := some (13, false) }) (v := ?vhr14) rfl (by kernel_rfl) (by kernel_rfl) (by kernel_rfl) (fun _ _ _ h => h) (Or.inl ⟨by rfl, ?hyhr14⟩) hHeld ?_
    case hyhr14 => (intro w hSw; (try dsimp only at hSw); go_simp <;> with_reducible rfl)
    try simp only [Act.put, List.setIfInBounds_toArray, List.set_cons_zero, List.set_cons_succ]
    refine wpAnyH_take (i := 15) (oi := { dst := some 60, op := Op.unOp UnOp.not 4 (Operand.tmp 59), type := 4, pos := "laws.go:379", after := #[{ on := 14, ground := Ground.data }, { on := 13, ground := Ground.guard }], guard := some (13, false) }) (v := ?vhr15) rfl (by kernel_rfl) (by kernel_rfl) (by kernel_rfl) (fun _ _ _ h => h) (Or.inl ⟨by rfl, ?hyhr15⟩) hHeld ?_
    case hyhr15 => (intro w hSw; (try dsimp only at hSw); go_simp <;> with_reducible rfl)
    try simp only [Act.put, List.setIfInBounds_toArray, List.set_cons_zero, List.set_cons_succ]
    refine wpAnyH_take (i := 16) (oi := { dst := some 61, op := Op.pick (Operand.tmp 58) (Operand.const (Value.bool true)) (Operand.tmp 60), type := 4, pos := "laws.go:379", after := #[{ on := 13, ground := Ground.data }, { on := 15, ground := Ground.data }], guard := none }) (v := ?vhr16) rfl (by kernel_rfl) (by kernel_rfl) (by kernel_rfl) (fun _ _ _ h => h) (Or.inl ⟨by rfl, ?hyhr16⟩) hHeld ?_
    case hyhr16 => (intro w hSw; (try dsimp only at hSw); go_simp <;> with_reducible rfl)
    try simp only [Act.put, List.setIfInBounds_toArray, List.set_cons_zero, List.set_cons_succ]
    refine wpAnyH_take (i := 17) (oi := { dst := some 62, op := Op.move (Operand.tmp 61), type := 4, pos := "laws.go:379", after := #[{ on := 16, ground := Ground.data }, { on := 13, ground := Ground.chain }], guard := none }) (v := ?vhr17) rfl (by kernel_rfl) (by kernel_rfl) (by kernel_rfl) (fun _ _ _ h => h) (Or.inl ⟨by rfl, ?hyhr17⟩) hHeld ?_
    case hyhr17 => (intro w hSw; (try dsimp only at hSw); go_simp <;> with_reducible rfl)
    try simp only [Act.put, List.setIfInBounds_toArray, List.set_cons_zero, List.set_cons_succ]
    refine wpAnyH_take (i := 18) (oi := { dst := some 63, op := Op.move (Operand.tmp 8), type := 4, pos := "laws.go:379", after := #[{ on := 17, ground := Ground.guard }], guard := some (17, false) }) (v := ?vhr18) rfl (by kernel_rfl) (by kernel_rfl) (by kernel_rfl) (fun _ _ _ h => h) (Or.inl ⟨by rfl, ?hyhr18⟩) hHeld ?_
    case hyhr18 => (intro w hSw; (try dsimp only at hSw); go_simp <;> with_reducible rfl)
    try simp only [Act.put, List.setIfInBounds_toArray, List.set_cons_zero, List.set_cons_succ]
    refine wpAnyH_take (i := 19) (oi := { dst := some 64, op := Op.move (Operand.tmp 63), type := 4, pos := "laws.go:379", after := #[{ on := 18, ground := Ground.data }, { on := 17, ground := Ground.chain }, { on := 17, ground := Ground.guard }], guard := some (17, false) }) (v := ?vhr19) rfl (by kernel_rfl) (by kernel_rfl) (by kernel_rfl) (fun _ _ _ h => h) (Or.inl ⟨by rfl, ?hyhr19⟩) hHeld ?_
    case hyhr19 => (intro w hSw; (try dsimp only at hSw); go_simp <;> with_reducible rfl)
    try simp only [Act.put, List.setIfInBounds_toArray, List.set_cons_zero, List.set_cons_succ]
    refine wpAnyH_take (i := 20) (oi := { dst := some 65, op := Op.load 29 (Operand.tmp 9), type := 29, pos := "laws.go:379", after := #[{ on := 19, ground := Ground.guard }], guard := some (19, true) }) (v := ?vhr20) rfl (by kernel_rfl) (by kernel_rfl) (by kernel_rfl) (fun _ _ _ h => h) (Or.inl ⟨by rfl, ?hyhr20⟩) hHeld ?_
    case hyhr20 => (intro w hSw; (try dsimp only at hSw); go_simp <;> with_reducible rfl)
    try simp only [Act.put, List.setIfInBounds_toArray, List.set_cons_zero, List.set_cons_succ]
    refine wpAnyH_take (i := 21) (oi := { dst := some 66, op := Op.load 29 (Operand.tmp 7), type := 29, pos := "laws.go:379", after := #[{ on := 19, ground := Ground.guard }], guard := some (19, true) }) (v := ?vhr21) rfl (by kernel_rfl) (by kernel_rfl) (by kernel_rfl) (fun _ _ _ h => h) (Or.inl ⟨by rfl, ?hyhr21⟩) hHeld ?_
    case hyhr21 => (intro w hSw; (try dsimp only at hSw); go_simp <;> with_reducible rfl)
    try simp only [Act.put, List.setIfInBounds_toArray, List.set_cons_zero, List.set_cons_succ]
    refine wpAnyH_take (i := 22) (oi := { dst := some 67, op := Op.load 29 (Operand.tmp 4), type := 29, pos := "laws.go:379", after := #[{ on := 19, ground := Ground.guard }], guard := some (19, true) }) (v := ?vhr22) rfl (by kernel_rfl) (by kernel_rfl) (by kernel_rfl) (fun _ _ _ h => h) (Or.inl ⟨by rfl, ?hyhr22⟩) hHeld ?_
    case hyhr22 => (intro w hSw; (try dsimp only at hSw); go_simp <;> with_reducible rfl)
    try simp only [Act.put, List.setIfInBounds_toArray, List.set_cons_zero, List.set_cons_succ]
    refine wpAnyH_ready (rs := [23]) (by kernel_rfl) (by simp) ?_
    refine AllReadyH.cons (o := { dst := some 68, op := Op.call { callee := Callee.value (Operand.func 25), args := #[Operand.tmp 66, Operand.tmp 67], argTypes := #[29, 29] }, type := 29, pos := "laws.go:379", after := #[{ on := 21, ground := Ground.data }, { on := 22, ground := Ground.data }, { on := 19, ground := Ground.chain }, { on := 19, ground := Ground.guard }], guard := some (19, true) }) rfl (fun K hK => ?_) AllReadyH.nil
    go_simp
    refine (MG.out _ hHeld.1).mono ?_
    rintro r wvhr23 ⟨⟨gM, cM, rfl, ho'⟩, hy⟩
    have HK1 : Hid (Reads wvhr23 (some ⟨gM, 0, none⟩) x.l) := own_reads ho'
    have hz : Below w5.heap.size w5 wvhr23 := grow_on hHeld.1 hy
    clear hHeld hy ho'
    refine hK.out _ _ (HS.out _ hz) (fun hHeld => ?_)
    clear hK K hz
    try simp only [Act.put, List.setIfInBounds_toArray, List.set_cons_zero, List.set_cons_succ]
    refine wpAnyH_ready (rs := [24]) (by kernel_rfl) (by simp) ?_
    refine AllReadyH.cons (o := { dst := some 69, op := Op.call { callee := Callee.value (Operand.func 20), args := #[Operand.tmp 65, Operand.tmp 68], argTypes := #[29, 29] }, type := 4, pos := "laws.go:379", after := #[{ on := 20, ground := Ground.data }, { on := 23, ground := Ground.data }, { on := 23, ground := Ground.chain }, { on := 19, ground := Ground.guard }], guard := some (19, true) }) rfl (fun K hK => ?_) AllReadyH.nil
    go_simp
    refine (SMX.out _ _ _ hHeld.1 HK1.out).mono ?_
    rintro r wvhr24 ⟨rfl, hy⟩
    have hz : Below w5.heap.size w5 wvhr24 := grow_on hHeld.1 hy
    clear hHeld hy
    refine hK.out _ _ (HS.out _ hz) (fun hHeld => ?_)
    clear hK K hz
    try simp only [Act.put, List.setIfInBounds_toArray, List.set_cons_zero, List.set_cons_succ]
    refine wpAnyH_take (i := 25) (oi := { dst := some 70, op := Op.unOp UnOp.not 4 (Operand.tmp 69), type := 4, pos := "laws.go:379", after := #[{ on := 24, ground := Ground.data }, { on := 19, ground := Ground.guard }], guard := some (19, true) }) (v := ?vhr25) rfl (by kernel_rfl) (by kernel_rfl) (by kernel_rfl) (fun _ _ _ h => h) (Or.inl ⟨by rfl, ?hyhr25⟩) hHeld ?_
    case hyhr25 => (intro w hSw; (try dsimp only at hSw); go_simp <;> with_reducible rfl)
    try simp only [Act.put, List.setIfInBounds_toArray, List.set_cons_zero, List.set_cons_succ]
    refine wpAnyH_take (i := 26) (oi := { dst := some 71, op := Op.pick (Operand.tmp 64) (Operand.tmp 70) (Operand.const (Value.bool false)), type := 4, pos := "laws.go:379", after := #[{ on := 19, ground := Ground.data }, { on := 25, ground := Ground.data }, { on := 17, ground := Ground.guard }], guard := some (17, false) }) (v := ?vhr26) rfl (by kernel_rfl) (by kernel_rfl) (by kernel_rfl) (fun _ _ _ h => h) (Or.inl ⟨by rfl, ?hyhr26⟩) hHeld ?_
    case hyhr26 => (intro w hSw; (try dsimp only at hSw); go_simp <;> with_reducible rfl)
    try simp only [Act.put, List.setIfInBounds_toArray, List.set_cons_zero, List.set_cons_succ]
    refine wpAnyH_take (i := 27) (oi := { dst := some 72, op := Op.pick (Operand.tmp 62) (Operand.const (Value.bool true)) (Operand.tmp 71), type := 4, pos := "laws.go:379", after := #[{ on := 17, ground := Ground.data }, { on := 26, ground := Ground.data }], guard := none }) (v := ?vhr27) rfl (by kernel_rfl) (by kernel_rfl) (by kernel_rfl) (fun _ _ _ h => h) (Or.inl ⟨by rfl, ?hyhr27⟩) hHeld ?_
    case hyhr27 => (intro w hSw; (try dsimp only at hSw); go_simp <;> with_reducible rfl)
    try simp only [Act.put, List.setIfInBounds_toArray, List.set_cons_zero, List.set_cons_succ]
    refine wpAnyH_take (i := 28) (oi := { dst := some 73, op := Op.move (Operand.tmp 72), type := 4, pos := "laws.go:379", after := #[{ on := 27, ground := Ground.data }, { on := 24, ground := Ground.chain }], guard := none }) (v := ?vhr28) rfl (by kernel_rfl) (by kernel_rfl) (by kernel_rfl) (fun _ _ _ h => h) (Or.inl ⟨by rfl, ?hyhr28⟩) hHeld ?_
    case hyhr28 => (intro w hSw; (try dsimp only at hSw); go_simp <;> with_reducible rfl)
    try simp only [Act.put, List.setIfInBounds_toArray, List.set_cons_zero, List.set_cons_succ]
    refine wpAnyH_take (i := 29) (oi := { dst := some 74, op := Op.move (Operand.tmp 8), type := 4, pos := "laws.go:379", after := #[{ on := 28, ground := Ground.guard }], guard := some (28, false) }) (v := ?vhr29) rfl (by kernel_rfl) (by kernel_rfl) (by kernel_rfl) (fun _ _ _ h => h) (Or.inl ⟨by rfl, ?hyhr29⟩) hHeld ?_
    case hyhr29 => (intro w hSw; (try dsimp only at hSw); go_simp <;> with_reducible rfl)
    try simp only [Act.put, List.setIfInBounds_toArray, List.set_cons_zero, List.set_cons_succ]
    refine wpAnyH_take (i := 30) (oi := { dst := some 75, op := Op.unOp UnOp.not 4 (Operand.tmp 74), type := 4, pos := "laws.go:379", after := #[{ on := 29, ground := Ground.data }, { on := 28, ground := Ground.guard }], guard := some (28, false) }) (v := ?vhr30) rfl (by kernel_rfl) (by kernel_rfl) (by kernel_rfl) (fun _ _ _ h => h) (Or.inl ⟨by rfl, ?hyhr30⟩) hHeld ?_
    case hyhr30 => (intro w hSw; (try dsimp only at hSw); go_simp <;> with_reducible rfl)
    try simp only [Act.put, List.setIfInBounds_toArray, List.set_cons_zero, List.set_cons_succ]
    refine wpAnyH_take (i := 31) (oi := { dst := some 76, op := Op.move (Operand.tmp 75), type := 4, pos := "laws.go:379", after := #[{ on := 30, ground := Ground.data }, { on := 28, ground := Ground.chain }, { on := 28, ground := Ground.guard }], guard := some (28, false) }) (v := ?vhr31) rfl (by kernel_rfl) (by kernel_rfl) (by kernel_rfl) (fun _ _ _ h => h) (Or.inl ⟨by rfl, ?hyhr31⟩) hHeld ?_
    case hyhr31 => (intro w hSw; (try dsimp only at hSw); go_simp <;> with_reducible rfl)
    try simp only [Act.put, List.setIfInBounds_toArray, List.set_cons_zero, List.set_cons_succ]
    refine wpAnyH_take (i := 32) (oi := { dst := some 77, op := Op.load 29 (Operand.tmp 9), type := 29, pos := "laws.go:379", after := #[{ on := 31, ground := Ground.guard }], guard := some (31, true) }) (v := undef) rfl (by kernel_rfl) (by kernel_rfl) (by kernel_rfl) (fun _ _ _ h => h) (Or.inr ⟨by rfl, rfl⟩) hHeld ?_
    try simp only [Act.put, List.setIfInBounds_toArray, List.set_cons_zero, List.set_cons_succ]
    refine wpAnyH_take (i := 33) (oi := { dst := some 78, op := Op.load 29 (Operand.tmp 4), type := 29, pos := "laws.go:379", after := #[{ on := 31, ground := Ground.guard }], guard := some (31, true) }) (v := undef) rfl (by kernel_rfl) (by kernel_rfl) (by kernel_rfl) (fun _ _ _ h => h) (Or.inr ⟨by rfl, rfl⟩) hHeld ?_
    try simp only [Act.put, List.setIfInBounds_toArray, List.set_cons_zero, List.set_cons_succ]
    refine wpAnyH_ready (rs := [34]) (by kernel_rfl) (by simp) ?_
    refine AllReadyH.cons (o := { dst := some 79, op := Op.call { callee := Callee.value (Operand.func 20), args := #[Operand.tmp 77, Operand.tmp 78], argTypes := #[29, 29] }, type := 4, pos := "laws.go:379", after := #[{ on := 32, ground := Ground.data }, { on := 33, ground := Ground.data }, { on := 31, ground := Ground.chain }, { on := 31, ground := Ground.guard }], guard := some (31, true) }) rfl (fun K hK => ?_) AllReadyH.nil
    go_simp
    refine hK.out _ _ hHeld (fun hHeld => ?_)
    clear hK K
    try simp only [Act.put, List.setIfInBounds_toArray, List.set_cons_zero, List.set_cons_succ]
    refine wpAnyH_take (i := 35) (oi := { dst := some 80, op := Op.unOp UnOp.not 4 (Operand.tmp 79), type := 4, pos := "laws.go:379", after := #[{ on := 34, ground := Ground.data }, { on := 31, ground := Ground.guard }], guard := some (31, true) }) (v := undef) rfl (by kernel_rfl) (by kernel_rfl) (by kernel_rfl) (fun _ _ _ h => h) (Or.inr ⟨by rfl, rfl⟩) hHeld ?_
    try simp only [Act.put, List.setIfInBounds_toArray, List.set_cons_zero, List.set_cons_succ]
    refine wpAnyH_take (i := 36) (oi := { dst := some 81, op := Op.pick (Operand.tmp 76) (Operand.tmp 80) (Operand.const (Value.bool false)), type := 4, pos := "laws.go:379", after := #[{ on := 31, ground := Ground.data }, { on := 35, ground := Ground.data }, { on := 28, ground := Ground.guard }], guard := some (28, false) }) (v := ?vhr36) rfl (by kernel_rfl) (by kernel_rfl) (by kernel_rfl) (fun _ _ _ h => h) (Or.inl ⟨by rfl, ?hyhr36⟩) hHeld ?_
    case hyhr36 => (intro w hSw; (try dsimp only at hSw); go_simp <;> with_reducible rfl)
    try simp only [Act.put, List.setIfInBounds_toArray, List.set_cons_zero, List.set_cons_succ]
    refine wpAnyH_take (i := 37) (oi := { dst := some 82, op := Op.pick (Operand.tmp 73) (Operand.const (Value.bool true)) (Operand.tmp 81), type := 4, pos := "laws.go:379", after := #[{ on := 28, ground := Ground.data }, { on := 36, ground := Ground.data }], guard := none }) (v := ?vhr37) rfl (by kernel_rfl) (by kernel_rfl) (by kernel_rfl) (fun _ _ _ h => h) (Or.inl ⟨by rfl, ?hyhr37⟩) hHeld ?_
    case hyhr37 => (intro w hSw; (try dsimp only at hSw); go_simp <;> with_reducible rfl)
    try simp only [Act.put, List.setIfInBounds_toArray, List.set_cons_zero, List.set_cons_succ]
    refine wpAnyH_done (by kernel_rfl) ?_ _
    have hbz := hHeld.1
    clear hHeld HS kz SMX O1 O2 MG HK1
    clear bA_w5
    clear bOld_w5
    clear bZ_w5
    clear DX_w5
    clear RZ_w5
    have B_wvhr24 : Hid (Below w.heap.size w wvhr24) := grow_on B_w5.out hbz
    have DS_wvhr24 : Hid (St 7 wvhr24 (some ⟨Ms, 0, none⟩) S) := DS_w5.out.below hbz
    have RX_wvhr24 : Hid (St 8 wvhr24 (some ⟨Mx, 0, none⟩) Q) := RX_w5.out.below hbz
    have RL_wvhr24 : Hid (RdN wvhr24 (some ⟨Ml, 0, none⟩) P) := RL_w5.out.below hbz
    clear B_w5 DS_w5 RX_w5 RL_w5
    clear hbz
    go_upto_region 11 with fail
    have hpl : P.length ≤ 1000 := by
      have h1 := FP.out.1; have h2 := FQ.out.sum; have h3 := allT_sum Q; have h4 := cnt_allT Q
      omega
    go_wp2
    go_loopw [12] (fun i w' => ∃ m : Nat, i = .int .i64 m ∧ m ≤ P.length ∧ Below wvhr24.heap.size wvhr24 w') (fun i _ => P.length - (intOf i).toNat)
    case atStart => exact ⟨0, rfl, Nat.zero_le _, Below.refl _ _⟩
    case round =>
      obtain ⟨m, rfl, hmA, hw0⟩ := hrel
      have HW : Hid (Below wvhr24.heap.size wvhr24 wr) := hw0
      clear hw0
      by_cases hlt : m < P.length
      ·
        have hlt' : (m : Int) < (P.length : Int) := by omega
        have HRL : Hid (RdN wr (some ⟨Ml, 0, none⟩) P) := RL_wvhr24.out.below HW.out
        have HRX : Hid (St 8 wr (some ⟨Mx, 0, none⟩) Q) := RX_wvhr24.out.below HW.out
        obtain ⟨bb, oo, ee, hbL, gL, oL, cpL, hatL⟩ := HRL.out.get hlt
        cases ee
        have HY : Hid (Fine (nthP P m) ∧ findS Q (nthP P m).l = some (nthP P m)) := FP.out.2.1 _ (nthP_mem hlt)
        obtain ⟨y1, hy1⟩ : ∃ y1, nthP P m = y1 := ⟨_, rfl⟩
        rw [hy1] at hatL HY
        have HRK : Hid (Reads wr (some ⟨gL, oL, none⟩) y1.l) := hatL.reads
        have rL0 : wr.cell? ⟨Ml, m * 4, none⟩ = some (.slice (some ⟨gL, oL, none⟩) y1.l.length cpL) := by have := hatL.c0; rwa [Nat.zero_add] at this
        have rL1 : wr.cell? ⟨Ml, m * 4 + 1, none⟩ = some (.int .i64 y1.s) := by have := hatL.c1; rwa [Nat.zero_add] at this
        have rL2 : wr.cell? ⟨Ml, m * 4 + 2, none⟩ = some (.int .i64 y1.e) := by have := hatL.c2; rwa [Nat.zero_add] at this
        have rL3 : wr.cell? ⟨Ml, m * 4 + 3, none⟩ = some (.string y1.n) := by have := hatL.c3; rwa [Nat.zero_add] at this
        have HFY : Hid (findSD Q y1.l = y1 ∧ (findS Q y1.l).isSome = true) := ⟨by unfold findSD; rw [HY.out.2]; rfl, by rw [HY.out.2]; rfl⟩
        clear hatL
        go_wp2_with fail
        refine (findR _ (some ⟨gL, oL, none⟩) cx cpL Q y1.l wr HRX.out HRK.out HY.out.1.2 HY.out.1.1.fits HFY.out.1 HFY.out.2).mono ?_
        rintro r wf ⟨⟨bf, cf, rfl, hrf⟩, hbf⟩
        go_upto_region 14 with fail
        generalize hz : wf.alloc (.cells #[.slice bf y1.l.length cf, .int .i64 y1.s, .int .i64 y1.e, .string y1.n] 29) = zk
        have hbz : Below wf.heap.size wf zk := by rw [← hz]; exact Go.Joins.below_alloc1 wf _
        have HF : Hid (Blk zk wf.heap.size #[.slice bf y1.l.length cf, .int .i64 y1.s, .int .i64 y1.e, .string y1.n] 29) := by rw [← hz]; exact Blk.new _ _ _
        have HB3 : Hid (Below wr.heap.size wr zk) := grow_on hbf hbz
        have HRF : Hid (Reads zk bf y1.l) := hrf.below hbz
        have HRK3 : Hid (Reads zk (some ⟨gL, oL, none⟩) y1.l) := HRK.out.below HB3.out
        clear hz hbz hrf hbf
        generalize wf.heap.size = Fk at HF ⊢
        have kz : Below zk.heap.size zk zk.drew := (Below.refl _ _).drew
        have HZZ : Hid (Below wvhr24.heap.size wvhr24 zk) := grow_on HW.out HB3.out
        have SA : Hid (∀ (u : World), Below zk.heap.size zk u → Calls Tryz.prog 20 #[.agg #[.slice bf y1.l.length cf, .int .i64 y1.s, .int .i64 y1.e, .string y1.n], .agg #[.slice (some ⟨gL, oL, none⟩) y1.l.length cpL, .int .i64 y1.s, .int .i64 y1.e, .string y1.n]] u fun r w' => r = .returned (.bool true) ∧ Below u.heap.size u w') := fun u hu => (implSameA_any _ _ _ _ y1.l y1.l _ _ _ _ _ _ u (HRF.out.below hu) (HRK3.out.below hu) (fine_max HY.out.1) (fine_max HY.out.1)).mono fun e w' h => ⟨h.1.trans (retB (Alm.same_self _ _ _ _)), h.2⟩
        by_cases hm0 : m = 0
        ·
          have HM0 : Hid (m = 0) := hm0
          have hg0 : ¬ (m : Int) > 0 := by omega
          have hg1 : decide ((m : Int) > 0) = false := decide_eq_false hg0
          have HS : Hid (∀ w', Below zk.heap.size zk w' → Below zk.heap.size zk w' ∧ w'.cell? ⟨Fk, 0, none⟩ = some (.slice bf y1.l.length cf) ∧ w'.cell? ⟨Fk, 1, none⟩ = some (.int .i64 y1.s) ∧ w'.cell? ⟨Fk, 2, none⟩ = some (.int .i64 y1.e) ∧ w'.cell? ⟨Fk, 3, none⟩ = some (.string y1.n) ∧ w'.cell? ⟨Ml, m * 4, none⟩ = some (.slice (some ⟨gL, oL, none⟩) y1.l.length cpL) ∧ w'.cell? ⟨Ml, m * 4 + 1, none⟩ = some (.int .i64 y1.s) ∧ w'.cell? ⟨Ml, m * 4 + 2, none⟩ = some (.int .i64 y1.e) ∧ w'.cell? ⟨Ml, m * 4 + 3, none⟩ = some (.string y1.n)) := fun w' h => ⟨h, (HF.out.grow h).cell 0, (HF.out.grow h).cell 1, (HF.out.grow h).cell 2, (HF.out.grow h).cell 3, ((grow_on HB3.out h).cell (p := ⟨Ml, m * 4, none⟩) hbL).trans rL0, ((grow_on HB3.out h).cell (p := ⟨Ml, m * 4 + 1, none⟩) hbL).trans rL1, ((grow_on HB3.out h).cell (p := ⟨Ml, m * 4 + 2, none⟩) hbL).trans rL2, ((grow_on HB3.out h).cell (p := ⟨Ml, m * 4 + 3, none⟩) hbL).trans rL3⟩
          clear rL0 rL1 rL2 rL3 hm0
          refine wp_region_held_drew (S := fun w' => Below zk.heap.size zk w' ∧ w'.cell? ⟨Fk, 0, none⟩ = some (.slice bf y1.l.length cf) ∧ w'.cell? ⟨Fk, 1, none⟩ = some (.int .i64 y1.s) ∧ w'.cell? ⟨Fk, 2, none⟩ = some (.int .i64 y1.e) ∧ w'.cell? ⟨Fk, 3, none⟩ = some (.string y1.n) ∧ w'.cell? ⟨Ml, m * 4, none⟩ = some (.slice (some ⟨gL, oL, none⟩) y1.l.length cpL) ∧ w'.cell? ⟨Ml, m * 4 + 1, none⟩ = some (.int .i64 y1.s) ∧ w'.cell? ⟨Ml, m * 4 + 2, none⟩ = some (.int .i64 y1.e) ∧ w'.cell? ⟨Ml, m * 4 + 3, none⟩ = some (.string y1.n)) (by kernel_rfl) (HS.out _ kz) (fun hHeld => ?_)
          refine wpAnyH_take (i := 0) (oi := { dst := some 99, op := Op.move (Operand.tmp 14), type := 4, pos := "laws.go:384", after := #[], guard := none }) (v := ?vhz0) rfl (by kernel_rfl) (by kernel_rfl) (by kernel_rfl) (fun _ _ _ h => h) (Or.inl ⟨by rfl, ?hyhz0⟩) hHeld ?_
          case hyhz0 => (intro w hSw; (try dsimp only at hSw); go_simp <;> with_reducible rfl)
          try simp only [Act.put, List.setIfInBounds_toArray, List.set_cons_zero, List.set_cons_succ]
          refine wpAnyH_take (i := 1) (oi := { dst := some 100, op := Op.unOp UnOp.not 4 (Operand.tmp 99), type := 4, pos := "laws.go:384", after := #[{ on := 0, ground := Ground.data }], guard := none }) (v := ?vhz1) rfl (by kernel_rfl) (by kernel_rfl) (by kernel_rfl) (fun _ _ _ h => h) (Or.inl ⟨by rfl, ?hyhz1⟩) hHeld ?_
          case hyhz1 => (intro w hSw; (try dsimp only at hSw); go_simp <;> with_reducible rfl)
          try simp only [Act.put, List.setIfInBounds_toArray, List.set_cons_zero, List.set_cons_succ]
          refine wpAnyH_take (i := 2) (oi := { dst := some 101, op := Op.move (Operand.tmp 100), type := 4, pos := "laws.go:384", after := #[{ on := 1, ground := Ground.data }], guard := none }) (v := ?vhz2) rfl (by kernel_rfl) (by kernel_rfl) (by kernel_rfl) (fun _ _ _ h => h) (Or.inl ⟨by rfl, ?hyhz2⟩) hHeld ?_
          case hyhz2 => (intro w hSw; (try dsimp only at hSw); go_simp <;> with_reducible rfl)
          try simp only [Act.put, List.setIfInBounds_toArray, List.set_cons_zero, List.set_cons_succ]
          refine wpAnyH_take (i := 3) (oi := { dst := some 102, op := Op.load 29 (Operand.tmp 13), type := 29, pos := "laws.go:384", after := #[{ on := 2, ground := Ground.guard }], guard := some (2, false) }) (v := ?vhz3) rfl (by kernel_rfl) (by kernel_rfl) (by kernel_rfl) (fun _ _ _ h => h) (Or.inl ⟨by rfl, ?hyhz3⟩) hHeld ?_
          case hyhz3 => (intro w hSw; (try dsimp only at hSw); go_simp <;> with_reducible rfl)
          try simp only [Act.put, List.setIfInBounds_toArray, List.set_cons_zero, List.set_cons_succ]
          refine wpAnyH_take (i := 4) (oi := { dst := some 103, op := Op.move (Operand.tmp 11), type := 40, pos := "laws.go:384", after := #[{ on := 2, ground := Ground.guard }], guard := some (2, false) }) (v := ?vhz4) rfl (by kernel_rfl) (by kernel_rfl) (by kernel_rfl) (fun _ _ _ h => h) (Or.inl ⟨by rfl, ?hyhz4⟩) hHeld ?_
          case hyhz4 => (intro w hSw; (try dsimp only at hSw); go_simp <;> with_reducible rfl)
          try simp only [Act.put, List.setIfInBounds_toArray, List.set_cons_zero, List.set_cons_succ]
          refine wpAnyH_take (i := 5) (oi := { dst := some 104, op := Op.move (Operand.tmp 12), type := 3, pos := "laws.go:384", after := #[{ on := 2, ground := Ground.guard }], guard := some (2, false) }) (v := ?vhz5) rfl (by kernel_rfl) (by kernel_rfl) (by kernel_rfl) (fun _ _ _ h => h) (Or.inl ⟨by rfl, ?hyhz5⟩) hHeld ?_
          case hyhz5 => (intro w hSw; (try dsimp only at hSw); go_simp <;> with_reducible rfl)
          try simp only [Act.put, List.setIfInBounds_toArray, List.set_cons_zero, List.set_cons_succ]
          refine wpAnyH_take (i := 6) (oi := { dst := some 105, op := Op.indexAddr 40 (Operand.tmp 103) (Operand.tmp 104), type := 0, pos := "laws.go:384", after := #[{ on := 4, ground := Ground.data }, { on := 5, ground := Ground.data }, { on := 2, ground := Ground.guard }], guard := some (2, false) }) (v := ?vhz6) rfl (by kernel_rfl) (by kernel_rfl) (by kernel_rfl) (fun _ _ _ h => h) (Or.inl ⟨by rfl, ?hyhz6⟩) hHeld ?_
          case hyhz6 => (intro w hSw; (try dsimp only at hSw); go_simp <;> with_reducible rfl)
          try simp only [Act.put, List.setIfInBounds_toArray, List.set_cons_zero, List.set_cons_succ]
          refine wpAnyH_take (i := 7) (oi := { dst := some 106, op := Op.load 29 (Operand.tmp 105), type := 29, pos := "laws.go:384", after := #[{ on := 6, ground := Ground.data }, { on := 2, ground := Ground.guard }], guard := some (2, false) }) (v := ?vhz7) rfl (by kernel_rfl) (by kernel_rfl) (by kernel_rfl) (fun _ _ _ h => h) (Or.inl ⟨by rfl, ?hyhz7⟩) hHeld ?_
          case hyhz7 => (intro w hSw; (try dsimp only at hSw); go_simp <;> with_reducible rfl)
          try simp only [Act.put, List.setIfInBounds_toArray, List.set_cons_zero, List.set_cons_succ]
          refine wpAnyH_ready (rs := [8]) (by kernel_rfl) (by simp) ?_
          refine AllReadyH.cons (o := { dst := some 107, op := Op.call { callee := Callee.value (Operand.func 20), args := #[Operand.tmp 102, Operand.tmp 106], argTypes := #[29, 29] }, type := 4, pos := "laws.go:384", after := #[{ on := 3, ground := Ground.data }, { on := 7, ground := Ground.data }, { on := 2, ground := Ground.chain }, { on := 2, ground := Ground.guard }], guard := some (2, false) }) rfl (fun K hK => ?_) AllReadyH.nil
          go_simp
          refine (SA.out _ hHeld.1).mono ?_
          rintro r wvhz8 ⟨rfl, hy⟩
          have hz : Below zk.heap.size zk wvhz8 := grow_on hHeld.1 hy
          clear hHeld hy
          refine hK.out _ _ (HS.out _ hz) (fun hHeld => ?_)
          clear hK K hz
          try simp only [Act.put, List.setIfInBounds_toArray, List.set_cons_zero, List.set_cons_succ]
          refine wpAnyH_take (i := 9) (oi := { dst := some 108, op := Op.unOp UnOp.not 4 (Operand.tmp 107), type := 4, pos := "laws.go:384", after := #[{ on := 8, ground := Ground.data }, { on := 2, ground := Ground.guard }], guard := some (2, false) }) (v := ?vhz9) rfl (by kernel_rfl) (by kernel_rfl) (by kernel_rfl) (fun _ _ _ h => h) (Or.inl ⟨by rfl, ?hyhz9⟩) hHeld ?_
          case hyhz9 => (intro w hSw; (try dsimp only at hSw); go_simp <;> with_reducible rfl)
          try simp only [Act.put, List.setIfInBounds_toArray, List.set_cons_zero, List.set_cons_succ]
          refine wpAnyH_take (i := 10) (oi := { dst := some 109, op := Op.pick (Operand.tmp 101) (Operand.const (Value.bool true)) (Operand.tmp 108), type := 4, pos := "laws.go:384", after := #[{ on := 2, ground := Ground.data }, { on := 9, ground := Ground.data }], guard := none }) (v := ?vhz10) rfl (by kernel_rfl) (by kernel_rfl) (by kernel_rfl) (fun _ _ _ h => h) (Or.inl ⟨by rfl, ?hyhz10⟩) hHeld ?_
          case hyhz10 => (intro w hSw; (try dsimp only at hSw); go_simp <;> with_reducible rfl)
          try simp only [Act.put, List.setIfInBounds_toArray, List.set_cons_zero, List.set_cons_succ]
          refine wpAnyH_take (i := 11) (oi := { dst := some 110, op := Op.move (Operand.tmp 109), type := 4, pos := "laws.go:384", after := #[{ on := 10, ground := Ground.data }, { on := 8, ground := Ground.chain }], guard := none }) (v := ?vhz11) rfl (by kernel_rfl) (by kernel_rfl) (by kernel_rfl) (fun _ _ _ h => h) (Or.inl ⟨by rfl, ?hyhz11⟩) hHeld ?_
          case hyhz11 => (intro w hSw; (try dsimp only at hSw); go_simp <;> with_reducible rfl)
          try simp only [Act.put, List.setIfInBounds_toArray, List.set_cons_zero, List.set_cons_succ]
          refine wpAnyH_take (i := 12) (oi := { dst := some 111, op := Op.move (Operand.tmp 12), type := 3, pos := "laws.go:384", after := #[{ on := 11, ground := Ground.guard }], guard := some (11, false) }) (v := ?vhz12) rfl (by kernel_rfl) (by kernel_rfl) (by kernel_rfl) (fun _ _ _ h => h) (Or.inl ⟨by rfl, ?hyhz12⟩) hHeld ?_
          case hyhz12 => (intro w hSw; (try dsimp only at hSw); go_simp <;> with_reducible rfl)
          try simp only [Act.put, List.setIfInBounds_toArray, List.set_cons_zero, List.set_cons_succ]
          refine wpAnyH_take (i := 13) (oi := { dst := some 112, op := Op.binOp BinOp.gtr 3 (Operand.tmp 111) (Operand.const (Value.int IntKind.i64 0)) 3, type := 4, pos := "laws.go:384", after := #[{ on := 12, ground := Ground.data }, { on := 11, ground := Ground.guard }], guard := some (11, false) }) (v := .bool false) rfl (by kernel_rfl) (by kernel_rfl) (by kernel_rfl) (fun _ _ _ h => h) (Or.inl ⟨by rfl, ?hyhz13⟩) hHeld ?_
          case hyhz13 => (intro w hSw; (try dsimp only at hSw); go_simp <;> first | done | exact HM0.out | exact hg1)
          try simp only [Act.put, List.setIfInBounds_toArray, List.set_cons_zero, List.set_cons_succ]
          refine wpAnyH_take (i := 14) (oi := { dst := some 113, op := Op.move (Operand.tmp 112), type := 4, pos := "laws.go:384", after := #[{ on := 13, ground := Ground.data }, { on := 11, ground := Ground.chain }, { on := 11, ground := Ground.guard }], guard := some (11, false) }) (v := ?vhz14) rfl (by kernel_rfl) (by kernel_rfl) (by kernel_rfl) (fun _ _ _ h => h) (Or.inl ⟨by rfl, ?hyhz14⟩) hHeld ?_
          case hyhz14 => (intro w hSw; (try dsimp only at hSw); go_simp <;> with_reducible rfl)
          try simp only [Act.put, List.setIfInBounds_toArray, List.set_cons_zero, List.set_cons_succ]
          refine wpAnyH_take (i := 15) (oi := { dst := some 114, op := Op.move (Operand.tmp 11), type := 40, pos := "laws.go:384", after := #[{ on := 14, ground := Ground.guard }], guard := some (14, true) }) (v := undef) rfl (by kernel_rfl) (by kernel_rfl) (by kernel_rfl) (fun _ _ _ h => h) (Or.inr ⟨by rfl, rfl⟩) hHeld ?_
          try simp only [Act.put, List.setIfInBounds_toArray, List.set_cons_zero, List.set_cons_succ]
          refine wpAnyH_take (i := 16) (oi := { dst := some 115, op := Op.move (Operand.tmp 12), type := 3, pos := "laws.go:384", after := #[{ on := 14, ground := Ground.guard }], guard := some (14, true) }) (v := undef) rfl (by kernel_rfl) (by kernel_rfl) (by kernel_rfl) (fun _ _ _ h => h) (Or.inr ⟨by rfl, rfl⟩) hHeld ?_
          try simp only [Act.put, List.setIfInBounds_toArray, List.set_cons_zero, List.set_cons_succ]
          refine wpAnyH_take (i := 17) (oi := { dst := some 116, op := Op.binOp BinOp.sub 3 (Operand.tmp 115) (Operand.const (Value.int IntKind.i64 1)) 3, type := 3, pos := "laws.go:384", after := #[{ on := 16, ground := Ground.data }, { on := 14, ground := Ground.guard }], guard := some (14, true) }) (v := undef) rfl (by kernel_rfl) (by kernel_rfl) (by kernel_rfl) (fun _ _ _ h => h) (Or.inr ⟨by rfl, rfl⟩) hHeld ?_
          try simp only [Act.put, List.setIfInBounds_toArray, List.set_cons_zero, List.set_cons_succ]
          refine wpAnyH_take (i := 18) (oi := { dst := some 117, op := Op.indexAddr 40 (Operand.tmp 114) (Operand.tmp 116), type := 0, pos := "laws.go:384", after := #[{ on := 15, ground := Ground.data }, { on := 17, ground := Ground.data }, { on := 14, ground := Ground.guard }], guard := some (14, true) }) (v := undef) rfl (by kernel_rfl) (by kernel_rfl) (by kernel_rfl) (fun _ _ _ h => h) (Or.inr ⟨by rfl, rfl⟩) hHeld ?_
          try simp only [Act.put, List.setIfInBounds_toArray, List.set_cons_zero, List.set_cons_succ]
          refine wpAnyH_take (i := 19) (oi := { dst := some 118, op := Op.fieldAddr 29 (Operand.tmp 117) 0, type := 0, pos := "laws.go:384", after := #[{ on := 18, ground := Ground.data }, { on := 14, ground := Ground.guard }], guard := some (14, true) }) (v := undef) rfl (by kernel_rfl) (by kernel_rfl) (by kernel_rfl) (fun _ _ _ h => h) (Or.inr ⟨by rfl, rfl⟩) hHeld ?_
          try simp only [Act.put, List.setIfInBounds_toArray, List.set_cons_zero, List.set_cons_succ]
          refine wpAnyH_take (i := 20) (oi := { dst := some 119, op := Op.load 27 (Operand.tmp 118), type := 27, pos := "laws.go:384", after := #[{ on := 19, ground := Ground.data }, { on := 14, ground := Ground.guard }], guard := some (14, true) }) (v := undef) rfl (by kernel_rfl) (by kernel_rfl) (by kernel_rfl) (fun _ _ _ h => h) (Or.inr ⟨by rfl, rfl⟩) hHeld ?_
          try simp only [Act.put, List.setIfInBounds_toArray, List.set_cons_zero, List.set_cons_succ]
          refine wpAnyH_take (i := 21) (oi := { dst := some 120, op := Op.move (Operand.tmp 11), type := 40, pos := "laws.go:384", after := #[{ on := 14, ground := Ground.guard }], guard := some (14, true) }) (v := undef) rfl (by kernel_rfl) (by kernel_rfl) (by kernel_rfl) (fun _ _ _ h => h) (Or.inr ⟨by rfl, rfl⟩) hHeld ?_
          try simp only [Act.put, List.setIfInBounds_toArray, List.set_cons_zero, List.set_cons_succ]
          refine wpAnyH_take (i := 22) (oi := { dst := some 121, op := Op.move (Operand.tmp 12), type := 3, pos := "laws.go:384", after := #[{ on := 14, ground := Ground.guard }], guard := some (14, true) }) (v := undef) rfl (by kernel_rfl) (by kernel_rfl) (by kernel_rfl) (fun _ _ _ h => h) (Or.inr ⟨by rfl, rfl⟩) hHeld ?_
          try simp only [Act.put, List.setIfInBounds_toArray, List.set_cons_zero, List.set_cons_succ]
          refine wpAnyH_take (i := 23) (oi := { dst := some 122, op := Op.indexAddr 40 (Operand.tmp 120) (Operand.tmp 121), type := 0, pos := "laws.go:384", after := #[{ on := 21, ground := Ground.data }, { on := 22, ground := Ground.data }, { on := 14, ground := Ground.guard }], guard := some (14, true) }) (v := undef) rfl (by kernel_rfl) (by kernel_rfl) (by kernel_rfl) (fun _ _ _ h => h) (Or.inr ⟨by rfl, rfl⟩) hHeld ?_
          try simp only [Act.put, List.setIfInBounds_toArray, List.set_cons_zero, List.set_cons_succ]
          refine wpAnyH_take (i := 24) (oi := { dst := some 123, op := Op.fieldAddr 29 (Operand.tmp 122) 0, type := 0, pos := "laws.go:384", after := #[{ on := 23, ground := Ground.data }, { on := 14, ground := Ground.guard }], guard := some (14, true) }) (v := undef) rfl (by kernel_rfl) (by kernel_rfl) (by kernel_rfl) (fun _ _ _ h => h) (Or.inr ⟨by rfl, rfl⟩) hHeld ?_
          try simp only [Act.put, List.setIfInBounds_toArray, List.set_cons_zero, List.set_cons_succ]
          refine wpAnyH_take (i := 25) (oi := { dst := some 124, op := Op.load 27 (Operand.tmp 123), type := 27, pos := "laws.go:384", after := #[{ on := 24, ground := Ground.data }, { on := 14, ground := Ground.guard }], guard := some (14, true) }) (v := undef) rfl (by kernel_rfl) (by kernel_rfl) (by kernel_rfl) (fun _ _ _ h => h) (Or.inr ⟨by rfl, rfl⟩) hHeld ?_
          try simp only [Act.put, List.setIfInBounds_toArray, List.set_cons_zero, List.set_cons_succ]
          refine wpAnyH_ready (rs := [26]) (by kernel_rfl) (by simp) ?_
          refine AllReadyH.cons (o := { dst := some 125, op := Op.call { callee := Callee.value (Operand.func 34), args := #[Operand.tmp 119, Operand.tmp 124], argTypes := #[27, 27] }, type := 4, pos := "laws.go:384", after := #[{ on := 20, ground := Ground.data }, { on := 25, ground := Ground.data }, { on := 14, ground := Ground.chain }, { on := 14, ground := Ground.guard }], guard := some (14, true) }) rfl (fun K hK => ?_) AllReadyH.nil
          go_simp
          refine hK.out _ _ hHeld (fun hHeld => ?_)
          clear hK K
          try simp only [Act.put, List.setIfInBounds_toArray, List.set_cons_zero, List.set_cons_succ]
          refine wpAnyH_take (i := 27) (oi := { dst := some 126, op := Op.unOp UnOp.not 4 (Operand.tmp 125), type := 4, pos := "laws.go:384", after := #[{ on := 26, ground := Ground.data }, { on := 14, ground := Ground.guard }], guard := some (14, true) }) (v := undef) rfl (by kernel_rfl) (by kernel_rfl) (by kernel_rfl) (fun _ _ _ h => h) (Or.inr ⟨by rfl, rfl⟩) hHeld ?_
          try simp only [Act.put, List.setIfInBounds_toArray, List.set_cons_zero, List.set_cons_succ]
          refine wpAnyH_take (i := 28) (oi := { dst := some 127, op := Op.pick (Operand.tmp 113) (Operand.tmp 126) (Operand.const (Value.bool false)), type := 4, pos := "laws.go:384", after := #[{ on := 14, ground := Ground.data }, { on := 27, ground := Ground.data }, { on := 11, ground := Ground.guard }], guard := some (11, false) }) (v := ?vhz28) rfl (by kernel_rfl) (by kernel_rfl) (by kernel_rfl) (fun _ _ _ h => h) (Or.inl ⟨by rfl, ?hyhz28⟩) hHeld ?_
          case hyhz28 => (intro w hSw; (try dsimp only at hSw); go_simp <;> with_reducible rfl)
          try simp only [Act.put, List.setIfInBounds_toArray, List.set_cons_zero, List.set_cons_succ]
          refine wpAnyH_take (i := 29) (oi := { dst := some 128, op := Op.pick (Operand.tmp 110) (Operand.const (Value.bool true)) (Operand.tmp 127), type := 4, pos := "laws.go:384", after := #[{ on := 11, ground := Ground.data }, { on := 28, ground := Ground.data }], guard := none }) (v := ?vhz29) rfl (by kernel_rfl) (by kernel_rfl) (by kernel_rfl) (fun _ _ _ h => h) (Or.inl ⟨by rfl, ?hyhz29⟩) hHeld ?_
          case hyhz29 => (intro w hSw; (try dsimp only at hSw); go_simp <;> with_reducible rfl)
          try simp only [Act.put, List.setIfInBounds_toArray, List.set_cons_zero, List.set_cons_succ]
          refine wpAnyH_done (by kernel_rfl) ?_ _
          have HV2 : Hid (Below wvhr24.heap.size wvhr24 wvhz8) := grow_on HZZ.out hHeld.1
          clear hHeld HS kz SA
          go_wp2
          go_roundw
          case rel => exact ⟨m + 1, by go_num, by omega, HV2.out⟩
          case measure => simp [intOf]; omega
        ·
          obtain ⟨j, hj⟩ : ∃ j, m = j + 1 := ⟨m - 1, by omega⟩
          have hjl : j < P.length := by omega
          have hjl' : (j : Int) < (P.length : Int) := by omega
          obtain ⟨bb2, oo2, ee2, _, gK, oK, cpK, hatK⟩ := HRL.out.get hjl
          cases ee2
          obtain ⟨y0, hy0⟩ : ∃ y0, nthP P j = y0 := ⟨_, rfl⟩
          have HSL : Hid (LabL.slB y0.l y1.l = true) := by
            rw [← hy0, ← hy1, nthP_eq hjl, nthP_eq hlt]
            exact List.pairwise_iff_getElem.1 FP.out.2.2 j m hjl hlt (by omega)
          have HFK : Hid (Fine y0) := by rw [← hy0]; exact (FP.out.2.1 _ (nthP_mem hjl)).1
          rw [hy0] at hatK
          have HRK0 : Hid (Reads zk (some ⟨gK, oK, none⟩) y0.l) := hatK.reads.below HB3.out
          have rK : wr.cell? ⟨Ml, j * 4, none⟩ = some (.slice (some ⟨gK, oK, none⟩) y0.l.length cpK) := by have := hatK.c0; rwa [Nat.zero_add] at this
          have h00 : 0 < m := by omega
          have HM0 : Hid (0 < m) := h00
          clear h00
          have hg1 : decide ((m : Int) > 0) = true := decide_eq_true (by omega)
          have h00 : IntKind.i64.wrap ((m : Int) - 1) = (j : Int) := by rw [IntKind.wrap_i64]; omega
          have HW1 : Hid (IntKind.i64.wrap ((m : Int) - 1) = (j : Int)) := h00
          clear h00
          have HLS : Hid (∀ (u : World), Below zk.heap.size zk u → Calls Tryz.prog 34 #[.slice (some ⟨gK, oK, none⟩) y0.l.length cpK, .slice (some ⟨gL, oL, none⟩) y1.l.length cpL] u fun r w' => r = .returned (.bool true) ∧ Below u.heap.size u w') := fun u hu => (LabL.implLessS_any _ _ cpK cpL y0.l y1.l u (HRK0.out.below hu) (HRK3.out.below hu) (fine_max HFK.out) (fine_max HY.out.1)).mono fun e w' h => ⟨h.1.trans (retB HSL.out), h.2⟩
          have HS : Hid (∀ w', Below zk.heap.size zk w' → Below zk.heap.size zk w' ∧ w'.cell? ⟨Fk, 0, none⟩ = some (.slice bf y1.l.length cf) ∧ w'.cell? ⟨Fk, 1, none⟩ = some (.int .i64 y1.s) ∧ w'.cell? ⟨Fk, 2, none⟩ = some (.int .i64 y1.e) ∧ w'.cell? ⟨Fk, 3, none⟩ = some (.string y1.n) ∧ w'.cell? ⟨Ml, m * 4, none⟩ = some (.slice (some ⟨gL, oL, none⟩) y1.l.length cpL) ∧ w'.cell? ⟨Ml, m * 4 + 1, none⟩ = some (.int .i64 y1.s) ∧ w'.cell? ⟨Ml, m * 4 + 2, none⟩ = some (.int .i64 y1.e) ∧ w'.cell? ⟨Ml, m * 4 + 3, none⟩ = some (.string y1.n) ∧ w'.cell? ⟨Ml, j * 4, none⟩ = some (.slice (some ⟨gK, oK, none⟩) y0.l.length cpK)) := fun w' h => ⟨h, (HF.out.grow h).cell 0, (HF.out.grow h).cell 1, (HF.out.grow h).cell 2, (HF.out.grow h).cell 3, ((grow_on HB3.out h).cell (p := ⟨Ml, m * 4, none⟩) hbL).trans rL0, ((grow_on HB3.out h).cell (p := ⟨Ml, m * 4 + 1, none⟩) hbL).trans rL1, ((grow_on HB3.out h).cell (p := ⟨Ml, m * 4 + 2, none⟩) hbL).trans rL2, ((grow_on HB3.out h).cell (p := ⟨Ml, m * 4 + 3, none⟩) hbL).trans rL3, ((grow_on HB3.out h).cell (p := ⟨Ml, j * 4, none⟩) hbL).trans rK⟩
          clear rL0 rL1 rL2 rL3 rK hm0 hj hy0 hatK
          refine wp_region_held_drew (S := fun w' => Below zk.heap.size zk w' ∧ w'.cell? ⟨Fk, 0, none⟩ = some (.slice bf y1.l.length cf) ∧ w'.cell? ⟨Fk, 1, none⟩ = some (.int .i64 y1.s) ∧ w'.cell? ⟨Fk, 2, none⟩ = some (.int .i64 y1.e) ∧ w'.cell? ⟨Fk, 3, none⟩ = some (.string y1.n) ∧ w'.cell? ⟨Ml, m * 4, none⟩ = some (.slice (some ⟨gL, oL, none⟩) y1.l.length cpL) ∧ w'.cell? ⟨Ml, m * 4 + 1, none⟩ = some (.int .i64 y1.s) ∧ w'.cell? ⟨Ml, m * 4 + 2, none⟩ = some (.int .i64 y1.e) ∧ w'.cell? ⟨Ml, m * 4 + 3, none⟩ = some (.string y1.n) ∧ w'.cell? ⟨Ml, j * 4, none⟩ = some (.slice (some ⟨gK, oK, none⟩) y0.l.length cpK)) (by kernel_rfl) (HS.out _ kz) (fun hHeld => ?_)
          refine wpAnyH_take (i := 0) (oi := { dst := some 99, op := Op.move (Operand.tmp 14), type := 4, pos := "laws.go:384", after := #[], guard := none }) (v := ?vhy0) rfl (by kernel_rfl) (by kernel_rfl) (by kernel_rfl) (fun _ _ _ h => h) (Or.inl ⟨by rfl, ?hyhy0⟩) hHeld ?_
          case hyhy0 => (intro w hSw; (try dsimp only at hSw); go_simp <;> with_reducible rfl)
          try simp only [Act.put, List.setIfInBounds_toArray, List.set_cons_zero, List.set_cons_succ]
          refine wpAnyH_take (i := 1) (oi := { dst := some 100, op := Op.unOp UnOp.not 4 (Operand.tmp 99), type := 4, pos := "laws.go:384", after := #[{ on := 0, ground := Ground.data }], guard := none }) (v := ?vhy1) rfl (by kernel_rfl) (by kernel_rfl) (by kernel_rfl) (fun _ _ _ h => h) (Or.inl ⟨by rfl, ?hyhy1⟩) hHeld ?_
          case hyhy1 => (intro w hSw; (try dsimp only at hSw); go_simp <;> with_reducible rfl)
          try simp only [Act.put, List.setIfInBounds_toArray, List.set_cons_zero, List.set_cons_succ]
          refine wpAnyH_take (i := 2) (oi := { dst := some 101, op := Op.move (Operand.tmp 100), type := 4, pos := "laws.go:384", after := #[{ on := 1, ground := Ground.data }], guard := none }) (v := ?vhy2) rfl (by kernel_rfl) (by kernel_rfl) (by kernel_rfl) (fun _ _ _ h => h) (Or.inl ⟨by rfl, ?hyhy2⟩) hHeld ?_
          case hyhy2 => (intro w hSw; (try dsimp only at hSw); go_simp <;> with_reducible rfl)
          try simp only [Act.put, List.setIfInBounds_toArray, List.set_cons_zero, List.set_cons_succ]
          refine wpAnyH_take (i := 3) (oi := { dst := some 102, op := Op.load 29 (Operand.tmp 13), type := 29, pos := "laws.go:384", after := #[{ on := 2, ground := Ground.guard }], guard := some (2, false) }) (v := ?vhy3) rfl (by kernel_rfl) (by kernel_rfl) (by kernel_rfl) (fun _ _ _ h => h) (Or.inl ⟨by rfl, ?hyhy3⟩) hHeld ?_
          case hyhy3 => (intro w hSw; (try dsimp only at hSw); go_simp <;> with_reducible rfl)
          try simp only [Act.put, List.setIfInBounds_toArray, List.set_cons_zero, List.set_cons_succ]
          refine wpAnyH_take (i := 4) (oi := { dst := some 103, op := Op.move (Operand.tmp 11), type := 40, pos := "laws.go:384", after := #[{ on := 2, ground := Ground.guard }], guard := some (2, false) }) (v := ?vhy4) rfl (by kernel_rfl) (by kernel_rfl) (by kernel_rfl) (fun _ _ _ h => h) (Or.inl ⟨by rfl, ?hyhy4⟩) hHeld ?_
          case hyhy4 => (intro w hSw; (try dsimp only at hSw); go_simp <;> with_reducible rfl)
          try simp only [Act.put, List.setIfInBounds_toArray, List.set_cons_zero, List.set_cons_succ]
          refine wpAnyH_take (i := 5) (oi := { dst := some 104, op := Op.move (Operand.tmp 12), type := 3, pos := "laws.go:384", after := #[{ on := 2, ground := Ground.guard }], guard := some (2, false) }) (v := ?vhy5) rfl (by kernel_rfl) (by kernel_rfl) (by kernel_rfl) (fun _ _ _ h => h) (Or.inl ⟨by rfl, ?hyhy5⟩) hHeld ?_
          case hyhy5 => (intro w hSw; (try dsimp only at hSw); go_simp <;> with_reducible rfl)
          try simp only [Act.put, List.setIfInBounds_toArray, List.set_cons_zero, List.set_cons_succ]
          refine wpAnyH_take (i := 6) (oi := { dst := some 105, op := Op.indexAddr 40 (Operand.tmp 103) (Operand.tmp 104), type := 0, pos := "laws.go:384", after := #[{ on := 4, ground := Ground.data }, { on := 5, ground := Ground.data }, { on := 2, ground := Ground.guard }], guard := some (2, false) }) (v := ?vhy6) rfl (by kernel_rfl) (by kernel_rfl) (by kernel_rfl) (fun _ _ _ h => h) (Or.inl ⟨by rfl, ?hyhy6⟩) hHeld ?_
          case hyhy6 => (intro w hSw; (try dsimp only at hSw); go_simp <;> with_reducible rfl)
          try simp only [Act.put, List.setIfInBounds_toArray, List.set_cons_zero, List.set_cons_succ]
          refine wpAnyH_take (i := 7) (oi := { dst := some 106, op := Op.load 29 (Operand.tmp 105), type := 29, pos := "laws.go:384", after := #[{ on := 6, ground := Ground.data }, { on := 2, ground := Ground.guard }], guard := some (2, false) }) (v := ?vhy7) rfl (by kernel_rfl) (by kernel_rfl) (by kernel_rfl) (fun _ _ _ h => h) (Or.inl ⟨by rfl, ?hyhy7⟩) hHeld ?_
          case hyhy7 => (intro w hSw; (try dsimp only at hSw); go_simp <;> with_reducible rfl)
          try simp only [Act.put, List.setIfInBounds_toArray, List.set_cons_zero, List.set_cons_succ]
          refine wpAnyH_ready (rs := [8]) (by kernel_rfl) (by simp) ?_
          refine AllReadyH.cons (o := { dst := some 107, op := Op.call { callee := Callee.value (Operand.func 20), args := #[Operand.tmp 102, Operand.tmp 106], argTypes := #[29, 29] }, type := 4, pos := "laws.go:384", after := #[{ on := 3, ground := Ground.data }, { on := 7, ground := Ground.data }, { on := 2, ground := Ground.chain }, { on := 2, ground := Ground.guard }], guard := some (2, false) }) rfl (fun K hK => ?_) AllReadyH.nil
          go_simp
          refine (SA.out _ hHeld.1).mono ?_
          rintro r wvhy8 ⟨rfl, hy⟩
          have hz : Below zk.heap.size zk wvhy8 := grow_on hHeld.1 hy
          clear hHeld hy
          refine hK.out _ _ (HS.out _ hz) (fun hHeld => ?_)
          clear hK K hz
          try simp only [Act.put, List.setIfInBounds_toArray, List.set_cons_zero, List.set_cons_succ]
          refine wpAnyH_take (i := 9) (oi := { dst := some 108, op := Op.unOp UnOp.not 4 (Operand.tmp 107), type := 4, pos := "laws.go:384", after := #[{ on := 8, ground := Ground.data }, { on := 2, ground := Ground.guard }], guard := some (2, false) }) (v := ?vhy9) rfl (by kernel_rfl) (by kernel_rfl) (by kernel_rfl) (fun _ _ _ h => h) (Or.inl ⟨by rfl, ?hyhy9⟩) hHeld ?_
          case hyhy9 => (intro w hSw; (try dsimp only at hSw); go_simp <;> with_reducible rfl)
          try simp only [Act.put, List.setIfInBounds_toArray, List.set_cons_zero, List.set_cons_succ]
          refine wpAnyH_take (i := 10) (oi := { dst := some 109, op := Op.pick (Operand.tmp 101) (Operand.const (Value.bool true)) (Operand.tmp 108), type := 4, pos := "laws.go:384", after := #[{ on := 2, ground := Ground.data }, { on := 9, ground := Ground.data }], guard := none }) (v := ?vhy10) rfl (by kernel_rfl) (by kernel_rfl) (by kernel_rfl) (fun _ _ _ h => h) (Or.inl ⟨by rfl, ?hyhy10⟩) hHeld ?_
          case hyhy10 => (intro w hSw; (try dsimp only at hSw); go_simp <;> with_reducible rfl)
          try simp only [Act.put, List.setIfInBounds_toArray, List.set_cons_zero, List.set_cons_succ]
          refine wpAnyH_take (i := 11) (oi := { dst := some 110, op := Op.move (Operand.tmp 109), type := 4, pos := "laws.go:384", after := #[{ on := 10, ground := Ground.data }, { on := 8, ground := Ground.chain }], guard := none }) (v := ?vhy11) rfl (by kernel_rfl) (by kernel_rfl) (by kernel_rfl) (fun _ _ _ h => h) (Or.inl ⟨by rfl, ?hyhy11⟩) hHeld ?_
          case hyhy11 => (intro w hSw; (try dsimp only at hSw); go_simp <;> with_reducible rfl)
          try simp only [Act.put, List.setIfInBounds_toArray, List.set_cons_zero, List.set_cons_succ]
          refine wpAnyH_take (i := 12) (oi := { dst := some 111, op := Op.move (Operand.tmp 12), type := 3, pos := "laws.go:384", after := #[{ on := 11, ground := Ground.guard }], guard := some (11, false) }) (v := ?vhy12) rfl (by kernel_rfl) (by kernel_rfl) (by kernel_rfl) (fun _ _ _ h => h) (Or.inl ⟨by rfl, ?hyhy12⟩) hHeld ?_
          case hyhy12 => (intro w hSw; (try dsimp only at hSw); go_simp <;> with_reducible rfl)
          try simp only [Act.put, List.setIfInBounds_toArray, List.set_cons_zero, List.set_cons_succ]
          refine wpAnyH_take (i := 13) (oi := { dst := some 112, op := Op.binOp BinOp.gtr 3 (Operand.tmp 111) (Operand.const (Value.int IntKind.i64 0)) 3, type := 4, pos := "laws.go:384", after := #[{ on := 12, ground := Ground.data }, { on := 11, ground := Ground.guard }], guard := some (11, false) }) (v := .bool true) rfl (by kernel_rfl) (by kernel_rfl) (by kernel_rfl) (fun _ _ _ h => h) (Or.inl ⟨by rfl, ?hyhy13⟩) hHeld ?_
          case hyhy13 => (intro w hSw; (try dsimp only at hSw); go_simp <;> first | done | exact HM0.out | exact hg1 | exact HW1.out | (have h := HW1.out; unfold IntKind.wrap at h; exact h))
          try simp only [Act.put, List.setIfInBounds_toArray, List.set_cons_zero, List.set_cons_succ]
          refine wpAnyH_take (i := 14) (oi := { dst := some 113, op := Op.move (Operand.tmp 112), type := 4, pos := "laws.go:384", after := #[{ on := 13, ground := Ground.data }, { on := 11, ground := Ground.chain }, { on := 11, ground := Ground.guard }], guard := some (11, false) }) (v := ?vhy14) rfl (by kernel_rfl) (by kernel_rfl) (by kernel_rfl) (fun _ _ _ h => h) (Or.inl ⟨by rfl, ?hyhy14⟩) hHeld ?_
          case hyhy14 => (intro w hSw; (try dsimp only at hSw); go_simp <;> with_reducible rfl)
          try simp only [Act.put, List.setIfInBounds_toArray, List.set_cons_zero, List.set_cons_succ]
          refine wpAnyH_take (i := 15) (oi := { dst := some 114, op := Op.move (Operand.tmp 11), type := 40, pos := "laws.go:384", after := #[{ on := 14, ground := Ground.guard }], guard := some (14, true) }) (v := ?vhy15) rfl (by kernel_rfl) (by kernel_rfl) (by kernel_rfl) (fun _ _ _ h => h) (Or.inl ⟨by rfl, ?hyhy15⟩) hHeld ?_
          case hyhy15 => (intro w hSw; (try dsimp only at hSw); go_simp <;> with_reducible rfl)
          try simp only [Act.put, List.setIfInBounds_toArray, List.set_cons_zero, List.set_cons_succ]
          refine wpAnyH_take (i := 16) (oi := { dst := some 115, op := Op.move (Operand.tmp 12), type := 3, pos := "laws.go:384", after := #[{ on := 14, ground := Ground.guard }], guard := some (14, true) }) (v := ?vhy16) rfl (by kernel_rfl) (by kernel_rfl) (by kernel_rfl) (fun _ _ _ h => h) (Or.inl ⟨by rfl, ?hyhy16⟩) hHeld ?_
          case hyhy16 => (intro w hSw; (try dsimp only at hSw); go_simp <;> with_reducible rfl)
          try simp only [Act.put, List.setIfInBounds_toArray, List.set_cons_zero, List.set_cons_succ]
          refine wpAnyH_take (i := 17) (oi := { dst := some 116, op := Op.binOp BinOp.sub 3 (Operand.tmp 115) (Operand.const (Value.int IntKind.i64 1)) 3, type := 3, pos := "laws.go:384", after := #[{ on := 16, ground := Ground.data }, { on := 14, ground := Ground.guard }], guard := some (14, true) }) (v := .int .i64 j) rfl (by kernel_rfl) (by kernel_rfl) (by kernel_rfl) (fun _ _ _ h => h) (Or.inl ⟨by rfl, ?hyhy17⟩) hHeld ?_
          case hyhy17 => (intro w hSw; (try dsimp only at hSw); go_simp <;> first | done | exact HM0.out | exact hg1 | exact HW1.out | (have h := HW1.out; unfold IntKind.wrap at h; exact h))
          try simp only [Act.put, List.setIfInBounds_toArray, List.set_cons_zero, List.set_cons_succ]
          refine wpAnyH_take (i := 18) (oi := { dst := some 117, op := Op.indexAddr 40 (Operand.tmp 114) (Operand.tmp 116), type := 0, pos := "laws.go:384", after := #[{ on := 15, ground := Ground.data }, { on := 17, ground := Ground.data }, { on := 14, ground := Ground.guard }], guard := some (14, true) }) (v := ?vhy18) rfl (by kernel_rfl) (by kernel_rfl) (by kernel_rfl) (fun _ _ _ h => h) (Or.inl ⟨by rfl, ?hyhy18⟩) hHeld ?_
          case hyhy18 => (intro w hSw; (try dsimp only at hSw); go_simp <;> with_reducible rfl)
          try simp only [Act.put, List.setIfInBounds_toArray, List.set_cons_zero, List.set_cons_succ]
          refine wpAnyH_take (i := 19) (oi := { dst := some 118, op := Op.fieldAddr 29 (Operand.tmp 117) 0, type := 0, pos := "laws.go:384", after := #[{ on := 18, ground := Ground.data }, { on := 14, ground := Ground.guard }], guard := some (14, true) }) (v := ?vhy19) rfl (by kernel_rfl) (by kernel_rfl) (by kernel_rfl) (fun _ _ _ h => h) (Or.inl ⟨by rfl, ?hyhy19⟩) hHeld ?_
          case hyhy19 => (intro w hSw; (try dsimp only at hSw); go_simp <;> with_reducible rfl)
          try simp only [Act.put, List.setIfInBounds_toArray, List.set_cons_zero, List.set_cons_succ]
          refine wpAnyH_take (i := 20) (oi := { dst := some 119, op := Op.load 27 (Operand.tmp 118), type := 27, pos := "laws.go:384", after := #[{ on := 19, ground := Ground.data }, { on := 14, ground := Ground.guard }], guard := some (14, true) }) (v := ?vhy20) rfl (by kernel_rfl) (by kernel_rfl) (by kernel_rfl) (fun _ _ _ h => h) (Or.inl ⟨by rfl, ?hyhy20⟩) hHeld ?_
          case hyhy20 => (intro w hSw; (try dsimp only at hSw); go_simp <;> with_reducible rfl)
          try simp only [Act.put, List.setIfInBounds_toArray, List.set_cons_zero, List.set_cons_succ]
          refine wpAnyH_take (i := 21) (oi := { dst := some 120, op := Op.move (Operand.tmp 11), type := 40, pos := "laws.go:384", after := #[{ on := 14, ground := Ground.guard }], guard := some (14, true) }) (v := ?vhy21) rfl (by kernel_rfl) (by kernel_rfl) (by kernel_rfl) (fun _ _ _ h => h) (Or.inl ⟨by rfl, ?hyhy21⟩) hHeld ?_
          case hyhy21 => (intro w hSw; (try dsimp only at hSw); go_simp <;> with_reducible rfl)
          try simp only [Act.put, List.setIfInBounds_toArray, List.set_cons_zero, List.set_cons_succ]
          refine wpAnyH_take (i := 22) (oi := { dst := some 121, op := Op.move (Operand.tmp 12), type := 3, pos := "laws.go:384", after := #[{ on := 14, ground := Ground.guard }], guard := some (14, true) }) (v := ?vhy22) rfl (by kernel_rfl) (by kernel_rfl) (by kernel_rfl) (fun _ _ _ h => h) (Or.inl ⟨by rfl, ?hyhy22⟩) hHeld ?_
          case hyhy22 => (intro w hSw; (try dsimp only at hSw); go_simp <;> with_reducible rfl)
          try simp only [Act.put, List.setIfInBounds_toArray, List.set_cons_zero, List.set_cons_succ]
          refine wpAnyH_take (i := 23) (oi := { dst := some 122, op := Op.indexAddr 40 (Operand.tmp 120) (Operand.tmp 121), type := 0, pos := "laws.go:384", after := #[{ on := 21, ground := Ground.data }, { on := 22, ground := Ground.data }, { on := 14, ground := Ground.guard }], guard := some (14, true) }) (v := ?vhy23) rfl (by kernel_rfl) (by kernel_rfl) (by kernel_rfl) (fun _ _ _ h => h) (Or.inl ⟨by rfl, ?hyhy23⟩) hHeld ?_
          case hyhy23 => (intro w hSw; (try dsimp only at hSw); go_simp <;> with_reducible rfl)
          try simp only [Act.put, List.setIfInBounds_toArray, List.set_cons_zero, List.set_cons_succ]
          refine wpAnyH_take (i := 24) (oi := { dst := some 123, op := Op.fieldAddr 29 (Operand.tmp 122) 0, type := 0, pos := "laws.go:384", after := #[{ on := 23, ground := Ground.data }, { on := 14, ground := Ground.guard }], guard := some (14, true) }) (v := ?vhy24) rfl (by kernel_rfl) (by kernel_rfl) (by kernel_rfl) (fun _ _ _ h => h) (Or.inl ⟨by rfl, ?hyhy24⟩) hHeld ?_
          case hyhy24 => (intro w hSw; (try dsimp only at hSw); go_simp <;> with_reducible rfl)
          try simp only [Act.put, List.setIfInBounds_toArray, List.set_cons_zero, List.set_cons_succ]
          refine wpAnyH_take (i := 25) (oi := { dst := some 124, op := Op.load 27 (Operand.tmp 123), type := 27, pos := "laws.go:384", after := #[{ on := 24, ground := Ground.data }, { on := 14, ground := Ground.guard }], guard := some (14, true) }) (v := ?vhy25) rfl (by kernel_rfl) (by kernel_rfl) (by kernel_rfl) (fun _ _ _ h => h) (Or.inl ⟨by rfl, ?hyhy25⟩) hHeld ?_
          case hyhy25 => (intro w hSw; (try dsimp only at hSw); go_simp <;> with_reducible rfl)
          try simp only [Act.put, List.setIfInBounds_toArray, List.set_cons_zero, List.set_cons_succ]
          refine wpAnyH_ready (rs := [26]) (by kernel_rfl) (by simp) ?_
          refine AllReadyH.cons (o := { dst := some 125, op := Op.call { callee := Callee.value (Operand.func 34), args := #[Operand.tmp 119, Operand.tmp 124], argTypes := #[27, 27] }, type := 4, pos := "laws.go:384", after := #[{ on := 20, ground := Ground.data }, { on := 25, ground := Ground.data }, { on := 14, ground := Ground.chain }, { on := 14, ground := Ground.guard }], guard := some (14, true) }) rfl (fun K hK => ?_) AllReadyH.nil
          go_simp
          refine (HLS.out _ hHeld.1).mono ?_
          rintro r wvhy26 ⟨rfl, hy⟩
          have hz : Below zk.heap.size zk wvhy26 := grow_on hHeld.1 hy
          clear hHeld hy
          refine hK.out _ _ (HS.out _ hz) (fun hHeld => ?_)
          clear hK K hz
          try simp only [Act.put, List.setIfInBounds_toArray, List.set_cons_zero, List.set_cons_succ]
          refine wpAnyH_take (i := 27) (oi := { dst := some 126, op := Op.unOp UnOp.not 4 (Operand.tmp 125), type := 4, pos := "laws.go:384", after := #[{ on := 26, ground := Ground.data }, { on := 14, ground := Ground.guard }], guard := some (14, true) }) (v := ?vhy27) rfl (by kernel_rfl) (by kernel_rfl) (by kernel_rfl) (fun _ _ _ h => h) (Or.inl ⟨by rfl, ?hyhy27⟩) hHeld ?_
          case hyhy27 => (intro w hSw; (try dsimp only at hSw); go_simp <;> with_reducible rfl)
          try simp only [Act.put, List.setIfInBounds_toArray, List.set_cons_zero, List.set_cons_succ]
          refine wpAnyH_take (i := 28) (oi := { dst := some 127, op := Op.pick (Operand.tmp 113) (Operand.tmp 126) (Operand.const (Value.bool false)), type := 4, pos := "laws.go:384", after := #[{ on := 14, ground := Ground.data }, { on := 27, ground := Ground.data }, { on := 11, ground := Ground.guard }], guard := some (11, false) }) (v := ?vhy28) rfl (by kernel_rfl) (by kernel_rfl) (by kernel_rfl) (fun _ _ _ h => h) (Or.inl ⟨by rfl, ?hyhy28⟩) hHeld ?_
          case hyhy28 => (intro w hSw; (try dsimp only at hSw); go_simp <;> with_reducible rfl)
          try simp only [Act.put, List.setIfInBounds_toArray, List.set_cons_zero, List.set_cons_succ]
          refine wpAnyH_take (i := 29) (oi := { dst := some 128, op := Op.pick (Operand.tmp 110) (Operand.const (Value.bool true)) (Operand.tmp 127), type := 4, pos := "laws.go:384", after := #[{ on := 11, ground := Ground.data }, { on := 28, ground := Ground.data }], guard := none }) (v := ?vhy29) rfl (by kernel_rfl) (by kernel_rfl) (by kernel_rfl) (fun _ _ _ h => h) (Or.inl ⟨by rfl, ?hyhy29⟩) hHeld ?_
          case hyhy29 => (intro w hSw; (try dsimp only at hSw); go_simp <;> with_reducible rfl)
          try simp only [Act.put, List.setIfInBounds_toArray, List.set_cons_zero, List.set_cons_succ]
          refine wpAnyH_done (by kernel_rfl) ?_ _
          have HV2 : Hid (Below wvhr24.heap.size wvhr24 wvhy26) := grow_on HZZ.out hHeld.1
          clear hHeld HS kz SA HLS
          go_wp2
          go_roundw
          case rel => exact ⟨m + 1, by go_num, by omega, HV2.out⟩
          case measure => simp [intOf]; omega
      ·
        have hge : ¬ (m : Int) < (P.length : Int) := by omega
        go_upto_region 19 with fail
        have HBw : Hid (Below w.heap.size w wr) := grow_on B_wvhr24.out HW.out
        have HRX : Hid (St 8 wr (some ⟨Mx, 0, none⟩) Q) := RX_wvhr24.out.below HW.out
        have HRS : Hid (St 7 wr (some ⟨Ms, 0, none⟩) S) := DS_wvhr24.out.below HW.out
        have HS : Hid (∀ w', Below wr.heap.size wr w' → Below wr.heap.size wr w' ∧ True) := fun w' h => ⟨h, trivial⟩
        have kz : Below wr.heap.size wr wr.drew := (Below.refl _ _).drew
        obtain ⟨nq, hnq⟩ : ∃ nq, cntT Q = nq := ⟨_, rfl⟩
        obtain ⟨ns, hns⟩ : ∃ ns, cntT S = ns := ⟨_, rfl⟩
        have hcnt : nq = ns + 0 := by
          have h := cntT_put (S := S) x (by have := FX.out.2.2.rst.len; omega)
          rw [EQ.out.1, EQ.out.2, hnq, hns] at h
          simpa using h
        have hPn : P.length = nq := FP.out.1.trans hnq
        have hw1 : ((P.length : Int) == (nq : Int)) = true := by rw [hPn]; simp
        have hw2 : IntKind.i64.wrap ((ns : Int) + 0) = (nq : Int) := by rw [IntKind.wrap_i64]; omega
        have hw3 : ((nq : Int) == (nq : Int)) = true := by simp
        have C1 : Hid (∀ (u : World), Below wr.heap.size wr u → Calls Tryz.prog 35 #[.slice (some ⟨Mx, 0, none⟩) Q.length cx] u fun r w' => r = .returned (.int .i64 nq) ∧ Below u.heap.size u w') := fun u hu => countR _ cx Q u (HRX.out.below hu) hnq
        have C2 : Hid (∀ (u : World), Below wr.heap.size wr u → Calls Tryz.prog 35 #[.slice (some ⟨Ms, 0, none⟩) S.length cs] u fun r w' => r = .returned (.int .i64 ns) ∧ Below u.heap.size u w') := fun u hu => countR _ cs S u (HRS.out.below hu) hns
        have HCN : Hid (nq = ns + 0 ∧ nq ≤ 1000) := ⟨hcnt, by omega⟩
        clear hcnt hPn hnq hns hge hmA hlt
        clear HS kz
        go_wp2_with fail
        refine (C1.out _ (Below.refl _ _)).mono ?_
        rintro r u1 ⟨rfl, h1⟩
        have K1 : Hid (Below wr.heap.size wr u1) := h1
        clear h1
        go_wp2_with fail
        refine (C1.out _ K1.out).mono ?_
        rintro r u2 ⟨rfl, h1⟩
        have K2 : Hid (Below wr.heap.size wr u2) := grow_on K1.out h1
        clear h1
        go_wp2_with fail
        refine (C2.out _ K2.out).mono ?_
        rintro r u3 ⟨rfl, h1⟩
        have K3 : Hid (Below wr.heap.size wr u3) := grow_on K2.out h1
        clear h1
        go_wp2
        go_ret
        refine ⟨?_, grow_on HBw.out K3.out⟩
        first | rfl | (simp; done) | (simp; have h := HCN.out; unfold wrap64; omega)

theorem walk (a : Option Addr) (len cap : Nat) (zs : List Int) (w : World) (h : IsRow .u8 w a len cap zs) :
    Calls Tryz.prog 4 #[.slice a len cap] w fun e w' => e = .returned (.bool true) ∧ Below w.heap.size w w' := by
  obtain ⟨hl, hb⟩ := bytes_of h
  exact core a len cap w hl hb
theorem own : ownKnob Tryz.prog.godebug = none := by kernel_rfl
theorem laidOut : laidOutB Tryz.prog = true := by kernel_rfl
set_option maxRecDepth 100000 in
theorem lifted (os : Os) (started : os.Started) (H : Type) (enc : TypeId × Value → H) :
    ReturnsInHanded {} Tryz.checked os 4 .any (Rows.fnStoresSpec.pre6 enc Tryz.prog Tryz.f4 Rows.fnStoresRow.domain false) (Rows.fnStoresSpec.post enc Tryz.prog Tryz.f4 false true false false) := by
  refine returnsInHanded_of_change (C := Tryz.checked) own started (by kernel_rfl) Tryz.func4
    (ChangeSpec.witness6 (enc := enc) (C := Tryz.checked) false ⟨#[], #[.slice none 0 0], []⟩ 8 (by kernel_rfl) (by kernel_rfl) (by kernel_rfl) (by kernel_rfl)) ?_
  intro W base args ds gs before hval0 hW hcnd _
  have hval : ∀ (j : Nat) t v, Tryz.f4.params[j]? = some t → args[j]? = some v → Value.okWide Tryz.prog W .any base t v := hval0
  have hW' := hW
  obtain ⟨p, q, hA0, hV, rfl, hfz, hnd⟩ := hW
  have hA : DataW.TrodAll enc Tryz.prog W 0 (fun _ => true) true Tryz.f4.params.toList args.toList ds p := hA0
  rw [Tryz.params4] at hA hval
  obtain ⟨v0, vs0, d0, ds0, p0, q0, hargs, rfl, rfl, h0, r0⟩ := trodAll_cons hA
  obtain ⟨rfl, rfl, rfl⟩ := trodAll_nil r0
  obtain rfl : args = #[v0] := by cases args; simp_all
  obtain ⟨rfl, rfl⟩ := trodVars_none hV
  obtain ⟨a0, len0, cap0, rfl⟩ := okWide_slice Tryz.underlying22 (hval 0 22 v0 rfl rfl)
  have k0 := h0
  have lt0 : ∀ x ∈ p0, x.block < W.heap.size := by obtain ⟨m, hm⟩ := k0; exact DataW.trod_lt m _ _ _ hm
  obtain ⟨z0, w0⟩ : ∃ zs, IsRow .u8 W a0 len0 cap0 zs := by
    obtain ⟨fuel, hf⟩ := h0
    rcases open_ints Tryz.underlying22 Tryz.underlying5 (by kernel_rfl) hf with ⟨hcs, _⟩ | ⟨x, l, c, zs, hcs, _, hl, hm, hz, _, hcell, hwz⟩
    · simp [Value.cells] at hcs
      obtain ⟨rfl, rfl, rfl⟩ := hcs
      exact ⟨[], .inl ⟨rfl, rfl, rfl, rfl⟩⟩
    · simp [Value.cells] at hcs
      obtain ⟨rfl, rfl, rfl⟩ := hcs
      exact ⟨zs, .inr ⟨_, rfl, hl, hm, by simpa using hz, hcell, hwz⟩⟩
  clear hA0 hval0
  refine (walk a0 len0 cap0 z0 W w0).mono fun e W' ⟨he, bel⟩ => ?_
  subst he
  exact ⟨_, rfl, _, _, _, [], _, [], hW', trodAll_mk1 (shut_bool Tryz.underlying4 _), (trodAll_cons_mk (Below.trod laidOut (by kernel_rfl) (of_decide_eq_true (by kernel_rfl)) k0 bel lt0) trodAll_mk0), rfl, bel.frame _, fun h => by cases h⟩

theorem over : Rows.fnStoresRow.holds Tryz.pinned (OpenSpec.ofChange Rows.fnStoresSpec) :=
  OpenClaim.holds_of_wide 4 Tryz.f4 rfl rfl rfl rfl rfl rfl rfl ⟨rfl, rfl, rfl, rfl, rfl⟩ rfl rfl rfl rfl rfl (by kernel_rfl) Tryz.func4 (by kernel_rfl)
    (of_decide_eq_true (by kernel_rfl)) (by unfold Func.isWrapper; first | (rw [if_pos (by decide +kernel)]; kernel_rfl) | (rw [if_neg (by decide +kernel)]; exact ⟨rfl, rfl⟩))
    (fun os started H enc _ => lifted os started H enc)

end Go.Proofs.YtooninmicfcfoaaGreat.FnStores
namespace Go.Proofs.YtooninmicfcfoaaGreat
theorem fnStores_holds : Rows.FnStoresSaid := FnStores.over
#print axioms fnStores_holds
end Go.Proofs.YtooninmicfcfoaaGreat
