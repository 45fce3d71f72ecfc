/-
  PROVED: over a part in memory spec.l7At finds the first chain of a number, and spec.FindIn gives a copy of the first alarm of the labels in it, as plain functions on lists of chains say; nothing that was there is changed.
-/
import Derived.Test.YtooninmicfcfoaaGreatQPrtO
set_option linter.unusedVariables false
namespace Go.Proofs.YtooninmicfcfoaaGreat.PrtF
open Go.RowKit
open Labs LabS Alms AlmS AlmM Over Blk App Rws ChnI ChnC ChnP ChnS ChnK Chs Prt PrtO
open Fing (fingerB)
open Alm (at_par)

def atTo (C : List PCh) (f : Int) : Nat → Option Nat
  | 0 => none
  | k + 1 => match atTo C f k with
    | some j => some j
    | none => if (nthC C k).f = f then some k else none
def atO (C : List PCh) (f : Int) : Option Nat := atTo C f C.length
def atB (C : List PCh) (f : Int) : Int :=
  match atO C f with
  | some j => (j : Int)
  | none => -1
theorem atTo_none {C : List PCh} {f : Int} : ∀ {k : Nat}, (∀ j, j < k → (nthC C j).f ≠ f) → atTo C f k = none
  | 0, _ => rfl
  | k + 1, h => by
    rw [atTo, atTo_none (fun j hj => h j (by omega))]
    simp only []
    rw [if_neg (h k (by omega))]
theorem atTo_some {C : List PCh} {f : Int} {j : Nat} (hj : ∀ i, i < j → (nthC C i).f ≠ f) (he : (nthC C j).f = f) : ∀ {k : Nat}, j < k → atTo C f k = some j
  | 0, h => by omega
  | k + 1, h => by
    by_cases e : j = k
    · subst e
      rw [atTo, atTo_none hj]
      simp only []
      rw [if_pos he]
    · rw [atTo, atTo_some hj he (k := k) (by omega)]
theorem atTo_cases (C : List PCh) (f : Int) : ∀ k, (∀ j, j < k → (nthC C j).f ≠ f) ∨ ∃ j, j < k ∧ (nthC C j).f = f ∧ ∀ i, i < j → (nthC C i).f ≠ f
  | 0 => .inl fun j h => by omega
  | k + 1 => by
    rcases atTo_cases C f k with h | ⟨j, h0, h1, h2⟩
    · by_cases e : (nthC C k).f = f
      · exact .inr ⟨k, by omega, e, h⟩
      · refine .inl fun j hj => ?_
        by_cases q : j = k
        · subst q; exact e
        · exact h j (by omega)
    · exact .inr ⟨j, by omega, h1, h2⟩
theorem at_cases (C : List PCh) (f : Int) : (atO C f = none ∧ atB C f = -1 ∧ ∀ j, j < C.length → (nthC C j).f ≠ f) ∨ ∃ k : Nat, atO C f = some k ∧ atB C f = (k : Int) ∧ k < C.length ∧ (nthC C k).f = f ∧ ∀ j, j < k → (nthC C j).f ≠ f := by
  rcases atTo_cases C f C.length with h | ⟨k, h0, h1, h2⟩
  · have e : atO C f = none := atTo_none h
    exact .inl ⟨e, by unfold atB; rw [e], h⟩
  · have e : atO C f = some k := atTo_some h2 h1 h0
    exact .inr ⟨k, e, by unfold atB; rw [e], h0, h1, h2⟩
theorem at_miss {C : List PCh} {f : Int} (h : ∀ j, j < C.length → (nthC C j).f ≠ f) : atB C f = -1 := by
  have e : atO C f = none := atTo_none h
  unfold atB; rw [e]
theorem at_hit {C : List PCh} {f : Int} {j : Nat} (hj : ∀ i, i < j → (nthC C i).f ≠ f) (he : (nthC C j).f = f) (hl : j < C.length) : atB C f = (j : Int) := by
  have e : atO C f = some j := atTo_some hj he hl
  unfold atB; rw [e]
def findB (C : List PCh) (l : List Lab) : Option PAl :=
  match atO C (fingerB l) with
  | none => none
  | some k => match idxTo (nthC C k).P l (nthC C k).P.length with
    | none => none
    | some i => some (nthP (nthC C k).P i)
theorem find_1 {C : List PCh} {l : List Lab} (h : atO C (fingerB l) = none) : findB C l = none := by unfold findB; rw [h]
theorem find_2 {C : List PCh} {l : List Lab} {k : Nat} (h : atO C (fingerB l) = some k) (h2 : ∀ j, j < (nthC C k).P.length → (nthP (nthC C k).P j).l ≠ l) : findB C l = none := by
  unfold findB; rw [h]; simp only []; rw [idxTo_none h2]
theorem find_3 {C : List PCh} {l : List Lab} {k i : Nat} (h : atO C (fingerB l) = some k) (hj : ∀ j, j < i → (nthP (nthC C k).P j).l ≠ l) (he : (nthP (nthC C k).P i).l = l) (hi : i < (nthC C k).P.length) : findB C l = some (nthP (nthC C k).P i) := by
  unfold findB; rw [h]; simp only []; rw [idxTo_some hj he hi]
def Found (w w' : World) (e : Ending) (o : Option PAl) : Prop :=
  match o with
  | none => e = .returned (.tuple #[.agg #[.slice none 0 0, .int .i64 0, .int .i64 0, .string ByteArray.empty], .bool false])
  | some x => ∃ M c, e = .returned (.tuple #[.agg #[.slice (some ⟨M, 0, none⟩) x.l.length c, .int .i64 x.s, .int .i64 x.e, .string x.n], .bool true]) ∧ LabR.Own w w' M x.l

set_option maxHeartbeats 800000 in
theorem l7At_any (hd vr f : Int) (a : Option Addr) (cap : Nat) (C : List PCh) (w : World) (hr : RdG RdA w a C) (hl : C.length ≤ 1048576) :
    Calls Tryz.prog 71 #[.agg #[.int .i64 hd, .int .i64 vr, .slice a C.length cap], .int .i64 f] w fun e w' => e = .returned (.int .i64 (atB C f)) ∧ Below w.heap.size w w' := by
  have HR : Hid (RdG RdA w a C) := hr
  clear hr
  go_enter Tryz.func71, Tryz.ntmps71
  go_wp2
  go_loopw [5] (fun q w' => ∃ k : Nat, q = .int .i64 k ∧ k ≤ C.length ∧ (∀ j, j < k → (nthC C j).f ≠ f) ∧ Below (w.alloc (.cells #[.int .i64 hd, .int .i64 vr, .slice a C.length cap] 26)).heap.size (w.alloc (.cells #[.int .i64 hd, .int .i64 vr, .slice a C.length cap] 26)) w') (fun q _ => C.length - (intOf q).toNat)
  case atStart => exact ⟨0, rfl, Nat.zero_le _, fun j h => by omega, Below.refl _ _⟩
  case round =>
    obtain ⟨k, rfl, hk, hu, hw⟩ := hrel
    have HU : Hid (∀ j, j < k → (nthC C j).f ≠ f) := hu
    have c2 : wr.cell? ⟨w.heap.size, 2, none⟩ = some (.slice a C.length cap) := at_par hw 2 rfl
    have HB0 : Hid (Below (w.alloc (.cells #[.int .i64 hd, .int .i64 vr, .slice a C.length cap] 26)).heap.size (w.alloc (.cells #[.int .i64 hd, .int .i64 vr, .slice a C.length cap] 26)) wr) := hw
    have HBW : Hid (Below w.heap.size w wr) := grow_on (Go.Joins.below_alloc1 w _) hw
    clear hu hw
    by_cases hlt : k < C.length
    · have hlt' : (k : Int) < (C.length : Int) := by omega
      obtain ⟨b, off, ea, hb, ad, cp, hat⟩ := (HR.out.below stays_rd HBW.out).get hlt
      cases ea
      have x0 := hat.c0
      clear hat
      by_cases hf : (nthC C k).f = f
      · have HE : Hid (atB C f = (k : Int)) := at_hit HU.out hf hlt
        go_wp2
        go_ret
        exact ⟨ChnI.retI HE.out.symm, HBW.out⟩
      · have HU1 : Hid (∀ j, j < k + 1 → (nthC C j).f ≠ f) := fun j hj => by
          by_cases e : j = k
          · subst e; exact hf
          · exact HU.out j (by omega)
        go_wp2
        go_roundw
        case rel => exact ⟨k + 1, by go_num, by omega, HU1.out, HB0.out⟩
        case measure => simp [intOf]; omega
    · have hge : ¬ (k : Int) < (C.length : Int) := by omega
      have HE : Hid (atB C f = -1) := at_miss fun j hj => HU.out j (by omega)
      go_wp2
      go_ret
      exact ⟨ChnI.retI HE.out.symm, HBW.out⟩

set_option maxRecDepth 100000 in
set_option maxHeartbeats 1600000 in
theorem specFind_any (hd vr : Int) (a a' : Option Addr) (cap cap' : Nat) (C : List PCh) (l : List Lab) (w : World) (hr : RdG RdN w a C) (hr' : Reads w a' l) (hl : C.length ≤ 1048576) (hs : Small C) (hll : l.length ≤ maxLen) (hlf : LabT.Fits l) :
    Calls Tryz.prog 13 #[.agg #[.int .i64 hd, .int .i64 vr, .slice a C.length cap], .slice a' l.length cap'] w fun e w' => Found w w' e (findB C l) ∧ Below w.heap.size w w' := by
  have HR : Hid (RdG RdN w a C ∧ Reads w a' l ∧ Small C ∧ l.length ≤ maxLen ∧ LabT.Fits l) := ⟨hr, hr', hs, hll, hlf⟩
  clear hr hr' hs hll hlf
  go_enter Tryz.func13, Tryz.ntmps13
  go_upto_region 1 with fail
  obtain ⟨W0, hW0⟩ : ∃ W0, (w.alloc (.cells #[.int .i64 hd, .int .i64 vr, .slice a C.length cap] 26)).alloc (.cells #[.slice none 0 0, .int .i64 0, .int .i64 0, .string ByteArray.empty] 29) = W0 := ⟨_, rfl⟩
  have HW0 : Hid (Below w.heap.size w W0 ∧ Blk W0 w.heap.size #[.int .i64 hd, .int .i64 vr, .slice a C.length cap] 26 ∧ Blk W0 (w.heap.size + 1) #[.slice none 0 0, .int .i64 0, .int .i64 0, .string ByteArray.empty] 29) := by
    rw [← hW0]
    exact ⟨Go.Joins.below_alloc2 w _ _, (Blk.new _ _ _).alloc _, Blk.new_at (by simp)⟩
  have hW0' : (w.alloc (.cells #[.int .i64 hd, .int .i64 vr, .slice a C.length cap] 26)).alloc (.cells #[.slice none 0 0, .int .i64 0, .int .i64 0, .string ⟨#[]⟩] 29) = W0 := hW0
  first | rw [hW0'] | rw [hW0]
  clear hW0 hW0'
  have hne := Grown.some W0
  have lp := HW0.out.2.1.lt
  have x0 := fun x : Grown W0 => x.cell lp (HW0.out.2.1.cell 0)
  have x1 := fun x : Grown W0 => x.cell lp (HW0.out.2.1.cell 1)
  have x2 := fun x : Grown W0 => x.cell lp (HW0.out.2.1.cell 2)
  have HFi : ∀ x : Grown W0, Hid (Calls Tryz.prog 70 #[.slice a' l.length cap'] x.out fun e w' => e = .returned (.int .i64 (fingerB l)) ∧ Below x.out.heap.size x.out w') := fun x => Fing.specFinger_any _ _ _ _ ((HR.out.2.1.below HW0.out.1).below x.bel) HR.out.2.2.2.1 HR.out.2.2.2.2
  have HAt : ∀ x : Grown W0, Hid (Calls Tryz.prog 71 #[.agg #[.int .i64 hd, .int .i64 vr, .slice a C.length cap], .int .i64 (fingerB l)] x.out fun e w' => e = .returned (.int .i64 (atB C (fingerB l))) ∧ Below x.out.heap.size x.out w') := fun x => l7At_any _ _ _ _ _ _ _ ((HR.out.1.rd.below stays_rd HW0.out.1).below stays_rd x.bel) hl
  rcases at_cases C (fingerB l) with ⟨h0, h1, h2⟩ | ⟨k, h0, h1, hk, h3, h4⟩
  · have HE : Hid (findB C l = none) := find_1 h0
    rw [h1] at HAt
    clear h0 h1 h2
    go_wp2
    refine wp_over (z := W0) (by kernel_rfl) (by kernel_rfl) (Below.refl _ _) ?_
    repeat (go_big_quiet_step (first | (go_at_call 70; exact call_over (HFi _).out) | (go_at_call 71; exact call_over (HAt _).out)))
    refine wpQuiet_nil ?_
    intro w2 hw2
    have HB2 : Hid (Below W0.heap.size W0 w2) := over_bel hw2
    clear hw2 hne x0 x1 x2 HFi HAt
    have HRs : Hid (Blk w2 (w.heap.size + 1) #[.slice none 0 0, .int .i64 0, .int .i64 0, .string ByteArray.empty] 29) := HW0.out.2.2.grow HB2.out
    have r0 : w2.cell? ⟨w.heap.size + 1, 0, none⟩ = some (.slice none 0 0) := HRs.out.cell 0
    have r1 : w2.cell? ⟨w.heap.size + 1, 1, none⟩ = some (.int .i64 0) := HRs.out.cell 1
    have r2 : w2.cell? ⟨w.heap.size + 1, 2, none⟩ = some (.int .i64 0) := HRs.out.cell 2
    have r3 : w2.cell? ⟨w.heap.size + 1, 3, none⟩ = some (.string ByteArray.empty) := HRs.out.cell 3
    have f0 := HRs.out.frozen 0
    have f1 := HRs.out.frozen 1
    have f2 := HRs.out.frozen 2
    have f3 := HRs.out.frozen 3
    go_wp2
    have hs := Alm.put4 HRs.out (.slice none 0 0) (.int .i64 0) (.int .i64 0) (.string ⟨#[]⟩)
    have s0 := hs.cell 0
    have s1 := hs.cell 1
    have s2 := hs.cell 2
    have s3 := hs.cell 3
    refine bodyPost_ret (v := .tuple #[.agg #[.slice none 0 0, .int .i64 0, .int .i64 0, .string ⟨#[]⟩], .bool false]) (by simp [results, Tryz.results13, go_sem, s0, s1, s2, s3]) rfl ?_
    rw [HE.out]
    exact ⟨rfl, Alm.set4 (grow_on HW0.out.1 HB2.out) (by omega) _ _ _ _⟩
  · rw [h1] at HAt
    have HK : Hid (atO C (fingerB l) = some k) := h0
    have hk' : (k : Int) < (C.length : Int) := by omega
    clear h0 h1 h3 h4
    go_wp2
    refine wp_over (z := W0) (by kernel_rfl) (by kernel_rfl) (Below.refl _ _) ?_
    repeat (go_big_quiet_step (first | (go_at_call 70; exact call_over (HFi _).out) | (go_at_call 71; exact call_over (HAt _).out)))
    refine wpQuiet_nil ?_
    intro w2 hw2
    have HB2 : Hid (Below W0.heap.size W0 w2) := over_bel hw2
    clear hw2 hne x0 x1 x2 HFi HAt
    have p0 : w2.cell? ⟨w.heap.size, 0, none⟩ = some (.int .i64 hd) := (HW0.out.2.1.grow HB2.out).cell 0
    have p1 : w2.cell? ⟨w.heap.size, 1, none⟩ = some (.int .i64 vr) := (HW0.out.2.1.grow HB2.out).cell 1
    have p2 : w2.cell? ⟨w.heap.size, 2, none⟩ = some (.slice a C.length cap) := (HW0.out.2.1.grow HB2.out).cell 2
    have HB : Hid (Below w.heap.size w w2) := grow_on HW0.out.1 HB2.out
    obtain ⟨b, off, ea, hb, ad, cp, hat⟩ := (HR.out.1.below stays_rn HB.out).get hk
    cases ea
    have y0 := hat.c0
    have y1 := hat.c1
    have HRD : Hid (RdN w2 ad (nthC C k).P ∧ b < w2.heap.size) := ⟨hat.reads, hb⟩
    have HS : Hid ((nthC C k).P.length ≤ 1048576 ∧ LenM (nthC C k).P) := HR.out.2.2.1 _ (nthC_mem hk)
    clear hat hb
    go_wp2_with fail
    refine (specIn_any _ ad a' cp cap' (nthC C k).P l w2 HRD.out.1.rd (HR.out.2.1.below HB.out) HS.out.1 (len_m HS.out.2) HR.out.2.2.2.1).mono ?_
    rintro e w3 ⟨rfl, hb3⟩
    have HB3 : Hid (Below w2.heap.size w2 w3) := hb3
    have HBB : Hid (Below W0.heap.size W0 w3) := grow_on HB2.out hb3
    have z2 : w3.cell? ⟨w.heap.size, 2, none⟩ = some (.slice (some ⟨b, off, none⟩) C.length cap) := (hb3.cell (p := ⟨w.heap.size, 2, none⟩) (HW0.out.2.1.grow HB2.out).lt).trans p2
    have z0 := (hb3.cell (p := ⟨b, off + k * 2, none⟩) HRD.out.2).trans y0
    have z1 := (hb3.cell (p := ⟨b, off + k * 2 + 1, none⟩) HRD.out.2).trans y1
    clear hb3 p0 p1 p2 y0 y1
    rcases idx_cases (nthC C k).P l with ⟨i1, i2⟩ | ⟨i, i1, hi, i3, i4⟩
    · have HE : Hid (findB C l = none) := find_2 HK.out i2
      rw [i1]
      clear i1 i2
      have HRs : Hid (Blk w3 (w.heap.size + 1) #[.slice none 0 0, .int .i64 0, .int .i64 0, .string ByteArray.empty] 29) := HW0.out.2.2.grow HBB.out
      have r0 : w3.cell? ⟨w.heap.size + 1, 0, none⟩ = some (.slice none 0 0) := HRs.out.cell 0
      have r1 : w3.cell? ⟨w.heap.size + 1, 1, none⟩ = some (.int .i64 0) := HRs.out.cell 1
      have r2 : w3.cell? ⟨w.heap.size + 1, 2, none⟩ = some (.int .i64 0) := HRs.out.cell 2
      have r3 : w3.cell? ⟨w.heap.size + 1, 3, none⟩ = some (.string ByteArray.empty) := HRs.out.cell 3
      have f0 := HRs.out.frozen 0
      have f1 := HRs.out.frozen 1
      have f2 := HRs.out.frozen 2
      have f3 := HRs.out.frozen 3
      go_wp2
      have hs := Alm.put4 HRs.out (.slice none 0 0) (.int .i64 0) (.int .i64 0) (.string ⟨#[]⟩)
      have s0 := hs.cell 0
      have s1 := hs.cell 1
      have s2 := hs.cell 2
      have s3 := hs.cell 3
      refine bodyPost_ret (v := .tuple #[.agg #[.slice none 0 0, .int .i64 0, .int .i64 0, .string ⟨#[]⟩], .bool false]) (by simp [results, Tryz.results13, go_sem, s0, s1, s2, s3]) rfl ?_
      rw [HE.out]
      exact ⟨rfl, Alm.set4 (grow_on HW0.out.1 HBB.out) (by omega) _ _ _ _⟩
    · have HE : Hid (findB C l = some (nthP (nthC C k).P i)) := find_3 HK.out i4 i3 hi
      rw [i1]
      have hi' : (i : Int) < ((nthC C k).P.length : Int) := by omega
      obtain ⟨b1, off1, ea, hb1, g, o, cp1, hat⟩ := (HRD.out.1.below HB3.out).get hi
      cases ea
      have u0 := hat.c0
      have u1 := hat.c1
      have u2 := hat.c2
      have u3 := hat.c3
      have HRL : Hid (Reads w3 (some ⟨g, o, none⟩) (nthP (nthC C k).P i).l) := hat.reads
      clear hat hb1 i1 i3 i4
      go_wp2_with fail
      refine (copyS_any g o cp1 _ _ _ _ w3 HRL.out (HS.out.2 i hi)).mono ?_
      rintro e w4 ⟨⟨M, c, rfl, hO⟩, hb4⟩
      have HB4 : Hid (Below W0.heap.size W0 w4) := grow_on HBB.out hb4
      have HO : Hid (LabR.Own w w4 M (nthP (nthC C k).P i).l) := ⟨Nat.le_trans (grow_on HW0.out.1 HBB.out).size hO.1, hO.2⟩
      have HML : Hid (W0.heap.size ≤ M) := Nat.le_trans HBB.out.size hO.1
      clear hb4 hO z0 z1 z2 u0 u1 u2 u3
      have HRs : Hid (Blk w4 (w.heap.size + 1) #[.slice none 0 0, .int .i64 0, .int .i64 0, .string ByteArray.empty] 29) := HW0.out.2.2.grow HB4.out
      have r0 : w4.cell? ⟨w.heap.size + 1, 0, none⟩ = some (.slice none 0 0) := HRs.out.cell 0
      have r1 : w4.cell? ⟨w.heap.size + 1, 1, none⟩ = some (.int .i64 0) := HRs.out.cell 1
      have r2 : w4.cell? ⟨w.heap.size + 1, 2, none⟩ = some (.int .i64 0) := HRs.out.cell 2
      have r3 : w4.cell? ⟨w.heap.size + 1, 3, none⟩ = some (.string ByteArray.empty) := HRs.out.cell 3
      have f0 := HRs.out.frozen 0
      have f1 := HRs.out.frozen 1
      have f2 := HRs.out.frozen 2
      have f3 := HRs.out.frozen 3
      go_wp2
      have hs := Alm.put4 HRs.out (.slice (some ⟨M, 0, none⟩) (nthP (nthC C k).P i).l.length c) (.int .i64 (nthP (nthC C k).P i).s) (.int .i64 (nthP (nthC C k).P i).e) (.string (nthP (nthC C k).P i).n)
      have s0 := hs.cell 0
      have s1 := hs.cell 1
      have s2 := hs.cell 2
      have s3 := hs.cell 3
      refine bodyPost_ret (v := .tuple #[.agg #[.slice (some ⟨M, 0, none⟩) (nthP (nthC C k).P i).l.length c, .int .i64 (nthP (nthC C k).P i).s, .int .i64 (nthP (nthC C k).P i).e, .string (nthP (nthC C k).P i).n], .bool true]) (by simp [results, Tryz.results13, go_sem, s0, s1, s2, s3]) rfl ?_
      rw [HE.out]
      obtain ⟨q1, ds, q2, q3⟩ := HO.out
      exact ⟨⟨M, c, rfl, q1, ds, Alm.blk4 q2 (by have := HML.out; have := HW0.out.2.2.lt; omega) _ _ _ _, q3⟩, Alm.set4 (grow_on HW0.out.1 HB4.out) (by omega) _ _ _ _⟩
end Go.Proofs.YtooninmicfcfoaaGreat.PrtF
