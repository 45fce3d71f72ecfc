/-
  PROVED: over a part in memory spec.l7At finds the first chain of a number, and spec.FindIn gives a copy of the first alarm of the labels in it, as plain functions on lists of chains say; nothing that was there is changed.
  PROVED: spec.l7Copy gives a part of the same chains in memory of its own; what an alarm that is put into a part makes of its chains, on plain lists; nothing that was there is changed.
-/
import Derived.Test.YtooninmicfcfoaaGreatQPrtO
import Derived.Test.YtooninmicfcfoaaGreatQPrt
set_option linter.unusedVariables false
namespace Go.Proofs.YtooninmicfcfoaaGreat.PrtF
open Go.RowKit
open Labs LabS Alms AlmS AlmM Over Blk App Rws ChnI ChnC ChnP ChnS ChnK Chs Prt PrtO
open Fing (fingerB)
open Alm (at_par)

def atTo (C : List PCh) (f : Int) : Nat → Option Nat
  | 0 => none
  | k + 1 => match atTo C f k with
    | some j => some j
    | none => if (nthC C k).f = f then some k else none
def atO (C : List PCh) (f : Int) : Option Nat := atTo C f C.length
def atB (C : List PCh) (f : Int) : Int :=
  match atO C f with
  | some j => (j : Int)
  | none => -1
theorem atTo_none {C : List PCh} {f : Int} : ∀ {k : Nat}, (∀ j, j < k → (nthC C j).f ≠ f) → atTo C f k = none
  | 0, _ => rfl
  | k + 1, h => by
    rw [atTo, atTo_none (fun j hj => h j (by omega))]
    simp only []
    rw [if_neg (h k (by omega))]
theorem atTo_some {C : List PCh} {f : Int} {j : Nat} (hj : ∀ i, i < j → (nthC C i).f ≠ f) (he : (nthC C j).f = f) : ∀ {k : Nat}, j < k → atTo C f k = some j
  | 0, h => by omega
  | k + 1, h => by
    by_cases e : j = k
    · subst e
      rw [atTo, atTo_none hj]
      simp only []
      rw [if_pos he]
    · rw [atTo, atTo_some hj he (k := k) (by omega)]
theorem atTo_cases (C : List PCh) (f : Int) : ∀ k, (∀ j, j < k → (nthC C j).f ≠ f) ∨ ∃ j, j < k ∧ (nthC C j).f = f ∧ ∀ i, i < j → (nthC C i).f ≠ f
  | 0 => .inl fun j h => by omega
  | k + 1 => by
    rcases atTo_cases C f k with h | ⟨j, h0, h1, h2⟩
    · by_cases e : (nthC C k).f = f
      · exact .inr ⟨k, by omega, e, h⟩
      · refine .inl fun j hj => ?_
        by_cases q : j = k
        · subst q; exact e
        · exact h j (by omega)
    · exact .inr ⟨j, by omega, h1, h2⟩
theorem at_cases (C : List PCh) (f : Int) : (atO C f = none ∧ atB C f = -1 ∧ ∀ j, j < C.length → (nthC C j).f ≠ f) ∨ ∃ k : Nat, atO C f = some k ∧ atB C f = (k : Int) ∧ k < C.length ∧ (nthC C k).f = f ∧ ∀ j, j < k → (nthC C j).f ≠ f := by
  rcases atTo_cases C f C.length with h | ⟨k, h0, h1, h2⟩
  · have e : atO C f = none := atTo_none h
    exact .inl ⟨e, by unfold atB; rw [e], h⟩
  · have e : atO C f = some k := atTo_some h2 h1 h0
    exact .inr ⟨k, e, by unfold atB; rw [e], h0, h1, h2⟩
theorem at_miss {C : List PCh} {f : Int} (h : ∀ j, j < C.length → (nthC C j).f ≠ f) : atB C f = -1 := by
  have e : atO C f = none := atTo_none h
  unfold atB; rw [e]
theorem at_hit {C : List PCh} {f : Int} {j : Nat} (hj : ∀ i, i < j → (nthC C i).f ≠ f) (he : (nthC C j).f = f) (hl : j < C.length) : atB C f = (j : Int) := by
  have e : atO C f = some j := atTo_some hj he hl
  unfold atB; rw [e]
def findB (C : List PCh) (l : List Lab) : Option PAl :=
  match atO C (fingerB l) with
  | none => none
  | some k => match idxTo (nthC C k).P l (nthC C k).P.length with
    | none => none
    | some i => some (nthP (nthC C k).P i)
theorem find_1 {C : List PCh} {l : List Lab} (h : atO C (fingerB l) = none) : findB C l = none := by unfold findB; rw [h]
theorem find_2 {C : List PCh} {l : List Lab} {k : Nat} (h : atO C (fingerB l) = some k) (h2 : ∀ j, j < (nthC C k).P.length → (nthP (nthC C k).P j).l ≠ l) : findB C l = none := by
  unfold findB; rw [h]; simp only []; rw [idxTo_none h2]
theorem find_3 {C : List PCh} {l : List Lab} {k i : Nat} (h : atO C (fingerB l) = some k) (hj : ∀ j, j < i → (nthP (nthC C k).P j).l ≠ l) (he : (nthP (nthC C k).P i).l = l) (hi : i < (nthC C k).P.length) : findB C l = some (nthP (nthC C k).P i) := by
  unfold findB; rw [h]; simp only []; rw [idxTo_some hj he hi]
def Found (w w' : World) (e : Ending) (o : Option PAl) : Prop :=
  match o with
  | none => e = .returned (.tuple #[.agg #[.slice none 0 0, .int .i64 0, .int .i64 0, .string ByteArray.empty], .bool false])
  | some x => ∃ M c, e = .returned (.tuple #[.agg #[.slice (some ⟨M, 0, none⟩) x.l.length c, .int .i64 x.s, .int .i64 x.e, .string x.n], .bool true]) ∧ LabR.Own w w' M x.l

set_option maxHeartbeats 800000 in
theorem l7At_any (hd vr f : Int) (a : Option Addr) (cap : Nat) (C : List PCh) (w : World) (hr : RdG RdA w a C) (hl : C.length ≤ 1048576) :
    Calls Tryz.prog 71 #[.agg #[.int .i64 hd, .int .i64 vr, .slice a C.length cap], .int .i64 f] w fun e w' => e = .returned (.int .i64 (atB C f)) ∧ Below w.heap.size w w' := by
  have HR : Hid (RdG RdA w a C) := hr
  clear hr
  go_enter Tryz.func71, Tryz.ntmps71
  go_wp2
  go_loopw [5] (fun q w' => ∃ k : Nat, q = .int .i64 k ∧ k ≤ C.length ∧ (∀ j, j < k → (nthC C j).f ≠ f) ∧ Below (w.alloc (.cells #[.int .i64 hd, .int .i64 vr, .slice a C.length cap] 26)).heap.size (w.alloc (.cells #[.int .i64 hd, .int .i64 vr, .slice a C.length cap] 26)) w') (fun q _ => C.length - (intOf q).toNat)
  case atStart => exact ⟨0, rfl, Nat.zero_le _, fun j h => by omega, Below.refl _ _⟩
  case round =>
    obtain ⟨k, rfl, hk, hu, hw⟩ := hrel
    have HU : Hid (∀ j, j < k → (nthC C j).f ≠ f) := hu
    have c2 : wr.cell? ⟨w.heap.size, 2, none⟩ = some (.slice a C.length cap) := at_par hw 2 rfl
    have HB0 : Hid (Below (w.alloc (.cells #[.int .i64 hd, .int .i64 vr, .slice a C.length cap] 26)).heap.size (w.alloc (.cells #[.int .i64 hd, .int .i64 vr, .slice a C.length cap] 26)) wr) := hw
    have HBW : Hid (Below w.heap.size w wr) := grow_on (Go.Joins.below_alloc1 w _) hw
    clear hu hw
    by_cases hlt : k < C.length
    · have hlt' : (k : Int) < (C.length : Int) := by omega
      obtain ⟨b, off, ea, hb, ad, cp, hat⟩ := (HR.out.below stays_rd HBW.out).get hlt
      cases ea
      have x0 := hat.c0
      clear hat
      by_cases hf : (nthC C k).f = f
      · have HE : Hid (atB C f = (k : Int)) := at_hit HU.out hf hlt
        go_wp2
        go_ret
        exact ⟨ChnI.retI HE.out.symm, HBW.out⟩
      · have HU1 : Hid (∀ j, j < k + 1 → (nthC C j).f ≠ f) := fun j hj => by
          by_cases e : j = k
          · subst e; exact hf
          · exact HU.out j (by omega)
        go_wp2
        go_roundw
        case rel => exact ⟨k + 1, by go_num, by omega, HU1.out, HB0.out⟩
        case measure => simp [intOf]; omega
    · have hge : ¬ (k : Int) < (C.length : Int) := by omega
      have HE : Hid (atB C f = -1) := at_miss fun j hj => HU.out j (by omega)
      go_wp2
      go_ret
      exact ⟨ChnI.retI HE.out.symm, HBW.out⟩

set_option maxRecDepth 100000 in
set_option maxHeartbeats 1600000 in
theorem specFind_any (hd vr : Int) (a a' : Option Addr) (cap cap' : Nat) (C : List PCh) (l : List Lab) (w : World) (hr : RdG RdN w a C) (hr' : Reads w a' l) (hl : C.length ≤ 1048576) (hs : Small C) (hll : l.length ≤ maxLen) (hlf : LabT.Fits l) :
    Calls Tryz.prog 13 #[.agg #[.int .i64 hd, .int .i64 vr, .slice a C.length cap], .slice a' l.length cap'] w fun e w' => Found w w' e (findB C l) ∧ Below w.heap.size w w' := by
  have HR : Hid (RdG RdN w a C ∧ Reads w a' l ∧ Small C ∧ l.length ≤ maxLen ∧ LabT.Fits l) := ⟨hr, hr', hs, hll, hlf⟩
  clear hr hr' hs hll hlf
  go_enter Tryz.func13, Tryz.ntmps13
  go_upto_region 1 with fail
  obtain ⟨W0, hW0⟩ : ∃ W0, (w.alloc (.cells #[.int .i64 hd, .int .i64 vr, .slice a C.length cap] 26)).alloc (.cells #[.slice none 0 0, .int .i64 0, .int .i64 0, .string ByteArray.empty] 29) = W0 := ⟨_, rfl⟩
  have HW0 : Hid (Below w.heap.size w W0 ∧ Blk W0 w.heap.size #[.int .i64 hd, .int .i64 vr, .slice a C.length cap] 26 ∧ Blk W0 (w.heap.size + 1) #[.slice none 0 0, .int .i64 0, .int .i64 0, .string ByteArray.empty] 29) := by
    rw [← hW0]
    exact ⟨Go.Joins.below_alloc2 w _ _, (Blk.new _ _ _).alloc _, Blk.new_at (by simp)⟩
  have hW0' : (w.alloc (.cells #[.int .i64 hd, .int .i64 vr, .slice a C.length cap] 26)).alloc (.cells #[.slice none 0 0, .int .i64 0, .int .i64 0, .string ⟨#[]⟩] 29) = W0 := hW0
  first | rw [hW0'] | rw [hW0]
  clear hW0 hW0'
  have hne := Grown.some W0
  have lp := HW0.out.2.1.lt
  have x0 := fun x : Grown W0 => x.cell lp (HW0.out.2.1.cell 0)
  have x1 := fun x : Grown W0 => x.cell lp (HW0.out.2.1.cell 1)
  have x2 := fun x : Grown W0 => x.cell lp (HW0.out.2.1.cell 2)
  have HFi : ∀ x : Grown W0, Hid (Calls Tryz.prog 70 #[.slice a' l.length cap'] x.out fun e w' => e = .returned (.int .i64 (fingerB l)) ∧ Below x.out.heap.size x.out w') := fun x => Fing.specFinger_any _ _ _ _ ((HR.out.2.1.below HW0.out.1).below x.bel) HR.out.2.2.2.1 HR.out.2.2.2.2
  have HAt : ∀ x : Grown W0, Hid (Calls Tryz.prog 71 #[.agg #[.int .i64 hd, .int .i64 vr, .slice a C.length cap], .int .i64 (fingerB l)] x.out fun e w' => e = .returned (.int .i64 (atB C (fingerB l))) ∧ Below x.out.heap.size x.out w') := fun x => l7At_any _ _ _ _ _ _ _ ((HR.out.1.rd.below stays_rd HW0.out.1).below stays_rd x.bel) hl
  rcases at_cases C (fingerB l) with ⟨h0, h1, h2⟩ | ⟨k, h0, h1, hk, h3, h4⟩
  · have HE : Hid (findB C l = none) := find_1 h0
    rw [h1] at HAt
    clear h0 h1 h2
    go_wp2
    refine wp_over (z := W0) (by kernel_rfl) (by kernel_rfl) (Below.refl _ _) ?_
    repeat (go_big_quiet_step (first | (go_at_call 70; exact call_over (HFi _).out) | (go_at_call 71; exact call_over (HAt _).out)))
    refine wpQuiet_nil ?_
    intro w2 hw2
    have HB2 : Hid (Below W0.heap.size W0 w2) := over_bel hw2
    clear hw2 hne x0 x1 x2 HFi HAt
    have HRs : Hid (Blk w2 (w.heap.size + 1) #[.slice none 0 0, .int .i64 0, .int .i64 0, .string ByteArray.empty] 29) := HW0.out.2.2.grow HB2.out
    have r0 : w2.cell? ⟨w.heap.size + 1, 0, none⟩ = some (.slice none 0 0) := HRs.out.cell 0
    have r1 : w2.cell? ⟨w.heap.size + 1, 1, none⟩ = some (.int .i64 0) := HRs.out.cell 1
    have r2 : w2.cell? ⟨w.heap.size + 1, 2, none⟩ = some (.int .i64 0) := HRs.out.cell 2
    have r3 : w2.cell? ⟨w.heap.size + 1, 3, none⟩ = some (.string ByteArray.empty) := HRs.out.cell 3
    have f0 := HRs.out.frozen 0
    have f1 := HRs.out.frozen 1
    have f2 := HRs.out.frozen 2
    have f3 := HRs.out.frozen 3
    go_wp2
    have hs := Alm.put4 HRs.out (.slice none 0 0) (.int .i64 0) (.int .i64 0) (.string ⟨#[]⟩)
    have s0 := hs.cell 0
    have s1 := hs.cell 1
    have s2 := hs.cell 2
    have s3 := hs.cell 3
    refine bodyPost_ret (v := .tuple #[.agg #[.slice none 0 0, .int .i64 0, .int .i64 0, .string ⟨#[]⟩], .bool false]) (by simp [results, Tryz.results13, go_sem, s0, s1, s2, s3]) rfl ?_
    rw [HE.out]
    exact ⟨rfl, Alm.set4 (grow_on HW0.out.1 HB2.out) (by omega) _ _ _ _⟩
  · rw [h1] at HAt
    have HK : Hid (atO C (fingerB l) = some k) := h0
    have hk' : (k : Int) < (C.length : Int) := by omega
    clear h0 h1 h3 h4
    go_wp2
    refine wp_over (z := W0) (by kernel_rfl) (by kernel_rfl) (Below.refl _ _) ?_
    repeat (go_big_quiet_step (first | (go_at_call 70; exact call_over (HFi _).out) | (go_at_call 71; exact call_over (HAt _).out)))
    refine wpQuiet_nil ?_
    intro w2 hw2
    have HB2 : Hid (Below W0.heap.size W0 w2) := over_bel hw2
    clear hw2 hne x0 x1 x2 HFi HAt
    have p0 : w2.cell? ⟨w.heap.size, 0, none⟩ = some (.int .i64 hd) := (HW0.out.2.1.grow HB2.out).cell 0
    have p1 : w2.cell? ⟨w.heap.size, 1, none⟩ = some (.int .i64 vr) := (HW0.out.2.1.grow HB2.out).cell 1
    have p2 : w2.cell? ⟨w.heap.size, 2, none⟩ = some (.slice a C.length cap) := (HW0.out.2.1.grow HB2.out).cell 2
    have HB : Hid (Below w.heap.size w w2) := grow_on HW0.out.1 HB2.out
    obtain ⟨b, off, ea, hb, ad, cp, hat⟩ := (HR.out.1.below stays_rn HB.out).get hk
    cases ea
    have y0 := hat.c0
    have y1 := hat.c1
    have HRD : Hid (RdN w2 ad (nthC C k).P ∧ b < w2.heap.size) := ⟨hat.reads, hb⟩
    have HS : Hid ((nthC C k).P.length ≤ 1048576 ∧ LenM (nthC C k).P) := HR.out.2.2.1 _ (nthC_mem hk)
    clear hat hb
    go_wp2_with fail
    refine (specIn_any _ ad a' cp cap' (nthC C k).P l w2 HRD.out.1.rd (HR.out.2.1.below HB.out) HS.out.1 (len_m HS.out.2) HR.out.2.2.2.1).mono ?_
    rintro e w3 ⟨rfl, hb3⟩
    have HB3 : Hid (Below w2.heap.size w2 w3) := hb3
    have HBB : Hid (Below W0.heap.size W0 w3) := grow_on HB2.out hb3
    have z2 : w3.cell? ⟨w.heap.size, 2, none⟩ = some (.slice (some ⟨b, off, none⟩) C.length cap) := (hb3.cell (p := ⟨w.heap.size, 2, none⟩) (HW0.out.2.1.grow HB2.out).lt).trans p2
    have z0 := (hb3.cell (p := ⟨b, off + k * 2, none⟩) HRD.out.2).trans y0
    have z1 := (hb3.cell (p := ⟨b, off + k * 2 + 1, none⟩) HRD.out.2).trans y1
    clear hb3 p0 p1 p2 y0 y1
    rcases idx_cases (nthC C k).P l with ⟨i1, i2⟩ | ⟨i, i1, hi, i3, i4⟩
    · have HE : Hid (findB C l = none) := find_2 HK.out i2
      rw [i1]
      clear i1 i2
      have HRs : Hid (Blk w3 (w.heap.size + 1) #[.slice none 0 0, .int .i64 0, .int .i64 0, .string ByteArray.empty] 29) := HW0.out.2.2.grow HBB.out
      have r0 : w3.cell? ⟨w.heap.size + 1, 0, none⟩ = some (.slice none 0 0) := HRs.out.cell 0
      have r1 : w3.cell? ⟨w.heap.size + 1, 1, none⟩ = some (.int .i64 0) := HRs.out.cell 1
      have r2 : w3.cell? ⟨w.heap.size + 1, 2, none⟩ = some (.int .i64 0) := HRs.out.cell 2
      have r3 : w3.cell? ⟨w.heap.size + 1, 3, none⟩ = some (.string ByteArray.empty) := HRs.out.cell 3
      have f0 := HRs.out.frozen 0
      have f1 := HRs.out.frozen 1
      have f2 := HRs.out.frozen 2
      have f3 := HRs.out.frozen 3
      go_wp2
      have hs := Alm.put4 HRs.out (.slice none 0 0) (.int .i64 0) (.int .i64 0) (.string ⟨#[]⟩)
      have s0 := hs.cell 0
      have s1 := hs.cell 1
      have s2 := hs.cell 2
      have s3 := hs.cell 3
      refine bodyPost_ret (v := .tuple #[.agg #[.slice none 0 0, .int .i64 0, .int .i64 0, .string ⟨#[]⟩], .bool false]) (by simp [results, Tryz.results13, go_sem, s0, s1, s2, s3]) rfl ?_
      rw [HE.out]
      exact ⟨rfl, Alm.set4 (grow_on HW0.out.1 HBB.out) (by omega) _ _ _ _⟩
    · have HE : Hid (findB C l = some (nthP (nthC C k).P i)) := find_3 HK.out i4 i3 hi
      rw [i1]
      have hi' : (i : Int) < ((nthC C k).P.length : Int) := by omega
      obtain ⟨b1, off1, ea, hb1, g, o, cp1, hat⟩ := (HRD.out.1.below HB3.out).get hi
      cases ea
      have u0 := hat.c0
      have u1 := hat.c1
      have u2 := hat.c2
      have u3 := hat.c3
      have HRL : Hid (Reads w3 (some ⟨g, o, none⟩) (nthP (nthC C k).P i).l) := hat.reads
      clear hat hb1 i1 i3 i4
      go_wp2_with fail
      refine (copyS_any g o cp1 _ _ _ _ w3 HRL.out (HS.out.2 i hi)).mono ?_
      rintro e w4 ⟨⟨M, c, rfl, hO⟩, hb4⟩
      have HB4 : Hid (Below W0.heap.size W0 w4) := grow_on HBB.out hb4
      have HO : Hid (LabR.Own w w4 M (nthP (nthC C k).P i).l) := ⟨Nat.le_trans (grow_on HW0.out.1 HBB.out).size hO.1, hO.2⟩
      have HML : Hid (W0.heap.size ≤ M) := Nat.le_trans HBB.out.size hO.1
      clear hb4 hO z0 z1 z2 u0 u1 u2 u3
      have HRs : Hid (Blk w4 (w.heap.size + 1) #[.slice none 0 0, .int .i64 0, .int .i64 0, .string ByteArray.empty] 29) := HW0.out.2.2.grow HB4.out
      have r0 : w4.cell? ⟨w.heap.size + 1, 0, none⟩ = some (.slice none 0 0) := HRs.out.cell 0
      have r1 : w4.cell? ⟨w.heap.size + 1, 1, none⟩ = some (.int .i64 0) := HRs.out.cell 1
      have r2 : w4.cell? ⟨w.heap.size + 1, 2, none⟩ = some (.int .i64 0) := HRs.out.cell 2
      have r3 : w4.cell? ⟨w.heap.size + 1, 3, none⟩ = some (.string ByteArray.empty) := HRs.out.cell 3
      have f0 := HRs.out.frozen 0
      have f1 := HRs.out.frozen 1
      have f2 := HRs.out.frozen 2
      have f3 := HRs.out.frozen 3
      go_wp2
      have hs := Alm.put4 HRs.out (.slice (some ⟨M, 0, none⟩) (nthP (nthC C k).P i).l.length c) (.int .i64 (nthP (nthC C k).P i).s) (.int .i64 (nthP (nthC C k).P i).e) (.string (nthP (nthC C k).P i).n)
      have s0 := hs.cell 0
      have s1 := hs.cell 1
      have s2 := hs.cell 2
      have s3 := hs.cell 3
      refine bodyPost_ret (v := .tuple #[.agg #[.slice (some ⟨M, 0, none⟩) (nthP (nthC C k).P i).l.length c, .int .i64 (nthP (nthC C k).P i).s, .int .i64 (nthP (nthC C k).P i).e, .string (nthP (nthC C k).P i).n], .bool true]) (by simp [results, Tryz.results13, go_sem, s0, s1, s2, s3]) rfl ?_
      rw [HE.out]
      obtain ⟨q1, ds, q2, q3⟩ := HO.out
      exact ⟨⟨M, c, rfl, q1, ds, Alm.blk4 q2 (by have := HML.out; have := HW0.out.2.2.lt; omega) _ _ _ _, q3⟩, Alm.set4 (grow_on HW0.out.1 HB4.out) (by omega) _ _ _ _⟩
end Go.Proofs.YtooninmicfcfoaaGreat.PrtF
namespace Go.Proofs.YtooninmicfcfoaaGreat.PrtC
open Go.RowKit
open Labs LabS Alms AlmM Over Blk App Rws ChnI ChnC ChnP ChnU ChnK Chs Prt PrtO PrtF
open Fing (fingerB)

structure MidC (w : World) (hd vr : Int) (a : Option Addr) (n cap : Nat) (W : World) (M c : Nat) (cs : List CRow) : Prop where
  part : Blk W w.heap.size #[.int .i64 hd, .int .i64 vr, .slice a n cap] 26
  res : Blk W (w.heap.size + 1) #[.int .i64 0, .int .i64 0, .slice none 0 0] 26
  out : Blk W (w.heap.size + 3) #[.int .i64 hd, .int .i64 vr, .slice (some ⟨M, 0, none⟩) cs.length c] 26
  left : CB (w.heap.size + 2) W M c cs
  low : Below w.heap.size w W
  size : w.heap.size + 4 ≤ W.heap.size
theorem MidC.grow {w : World} {hd vr : Int} {a : Option Addr} {n cap : Nat} {W W' : World} {M c : Nat} {cs : List CRow} (h : MidC w hd vr a n cap W M c cs) (hb : Below W.heap.size W W') : MidC w hd vr a n cap W' M c cs :=
  ⟨h.part.grow hb, h.res.grow hb, h.out.grow hb, h.left.grow hb, grow_on h.low hb, Nat.le_trans h.size hb.size⟩
set_option maxRecDepth 100000 in
set_option maxHeartbeats 2000000 in
theorem l7Copy_any (hd vr : Int) (a : Option Addr) (cap : Nat) (C : List PCh) (w : World) (hr : RdG RdN w a C) (hl : C.length ≤ 1048576) (hs : Small C) :
    Calls Tryz.prog 69 #[.agg #[.int .i64 hd, .int .i64 vr, .slice a C.length cap]] w fun e w' => (∃ M c cs, e = .returned (.agg #[.int .i64 hd, .int .i64 vr, .slice (some ⟨M, 0, none⟩) cs.length c]) ∧ CB w.heap.size w' M c cs ∧ chs cs = C) ∧ Below w.heap.size w w' := by
  have HR : Hid (RdG RdN w a C ∧ Small C) := ⟨hr, hs⟩
  clear hr hs
  obtain ⟨j0, hj, hy0, hy1, hy2⟩ := info_parts infoC
  go_enter Tryz.func69, Tryz.ntmps69
  go_wp2
  obtain ⟨W0, hW0⟩ : ∃ W0, (((w.alloc (.cells #[.int .i64 hd, .int .i64 vr, .slice a C.length cap] 26)).alloc (.cells #[.int .i64 0, .int .i64 0, .slice none 0 0] 26)).alloc (.cells #[] 96)).alloc (.cells #[.int .i64 hd, .int .i64 vr, .slice (some ⟨w.heap.size + 1 + 1, 0, none⟩) 0 0] 26) = W0 := ⟨_, rfl⟩
  have HW0 : Hid (MidC w hd vr a C.length cap W0 (w.heap.size + 2) 0 []) := by
    show MidC w hd vr a C.length cap W0 (w.heap.size + 2) 0 []
    rw [← hW0]
    exact ⟨(((Blk.new _ _ _).alloc _).alloc _).alloc _, ((Blk.new_at (by simp)).alloc _).alloc _, Blk.new_at (by simp), CB.nil ((Blk.new_at (by simp)).alloc _) (by omega), grow_on (Alm.below3 w _ _ _) (Go.Joins.below_alloc1 _ _), by simp⟩
  try rw [hW0]
  clear hW0
  go_loopw [4] (fun i w' => ∃ (k M c : Nat) (cs : List CRow), i = .int .i64 k ∧ k ≤ C.length ∧ MidC w hd vr a C.length cap w' M c cs ∧ chs cs = C.take k) (fun i _ => C.length - (intOf i).toNat)
  case atStart => exact ⟨0, w.heap.size + 2, 0, [], rfl, Nat.zero_le _, HW0.out, rfl⟩
  case round =>
    obtain ⟨k, M, c, cs, rfl, hk, hmid, hpc⟩ := hrel
    have HM : Hid (MidC w hd vr a C.length cap wr M c cs) := hmid
    have HP : Hid (chs cs = C.take k) := hpc
    have hcl : cs.length ≤ 1048576 := by have h1 := congrArg List.length hpc; rw [chs_len] at h1; simp at h1; omega
    have c2 : wr.cell? ⟨w.heap.size, 2, none⟩ = some (.slice a C.length cap) := hmid.part.cell 2
    clear hmid hpc
    by_cases hlt : k < C.length
    · have hlt' : (k : Int) < (C.length : Int) := by omega
      obtain ⟨b, off, ea, hb, ad, cp, hat⟩ := (HR.out.1.below stays_rn HM.out.low).get hlt
      cases ea
      have h2 := hat.c0
      have h3 := hat.c1
      have HRD : Hid (RdN wr ad (nthC C k).P) := hat.reads
      have HSk : Hid ((nthC C k).P.length ≤ 1048576 ∧ LenM (nthC C k).P) := HR.out.2 _ (nthC_mem hlt)
      clear hat
      go_wp2_with fail
      refine (l6Copy_any _ ad cp (nthC C k).P wr HRD.out HSk.out.1 HSk.out.2).mono ?_
      rintro e w2 ⟨⟨M1, c1, rs1, rfl, hA, hp1⟩, hb2⟩
      have HA : Hid (AB wr.heap.size w2 M1 c1 rs1 ∧ pals rs1 = (nthC C k).P) := ⟨hA.down (by omega), hp1⟩
      have HM2 : Hid (MidC w hd vr (some ⟨b, off, none⟩) C.length cap w2 M c cs) := HM.out.grow hb2
      clear hA hp1 hb2 h2 h3 c2
      obtain ⟨W3, hW3⟩ : ∃ W3, w2.alloc (.cells #[.int .i64 (nthC C k).f, .slice (some ⟨M1, 0, none⟩) rs1.length c1] 96) = W3 := ⟨_, rfl⟩
      have H3 : Hid (Below w2.heap.size w2 W3 ∧ Blk W3 w2.heap.size #[.int .i64 (nthC C k).f, .slice (some ⟨M1, 0, none⟩) rs1.length c1] 96) := by
        rw [← hW3]
        exact ⟨Go.Joins.below_alloc1 w2 _, Blk.new _ _ _⟩
      have HM3 : Hid (MidC w hd vr (some ⟨b, off, none⟩) C.length cap W3 M c cs) := HM2.out.grow H3.out.1
      have HA3 : Hid (AB wr.heap.size W3 M1 c1 rs1) := HA.out.1.grow H3.out.1
      have x0 : W3.cell? ⟨w2.heap.size, 0, none⟩ = some (.int .i64 (nthC C k).f) := H3.out.2.cell 0
      have x1 : W3.cell? ⟨w2.heap.size, 1, none⟩ = some (.slice (some ⟨M1, 0, none⟩) rs1.length c1) := H3.out.2.cell 1
      have o2 : W3.cell? ⟨w.heap.size + 3, 2, none⟩ = some (.slice (some ⟨M, 0, none⟩) cs.length c) := HM3.out.out.cell 2
      have hwz : w.heap.size + 2 ≤ wr.heap.size := by have := HM.out.size; omega
      obtain ⟨xs, hox, hxl, hxs⟩ := HM3.out.left.own
      have HOX2 : Hid (∀ o, (W3.alloc o).ownsRow (w.heap.size + 2) 96 2 (.slice (some ⟨M, 0, none⟩) cs.length c) cs.length xs) := fun o => own_grow hox (Go.Joins.below_alloc1 W3 o)
      have HXS2 : Hid (xs.length = cs.length * 2 ∧ ∀ i, i < cs.length → Cel (fun k => xs[k]?) i (nthR cs i)) := ⟨hxl, hxs⟩
      have HU : Hid (∀ o, Below W3.heap.size W3 (W3.alloc o)) := fun o => Go.Joins.below_alloc1 W3 o
      clear hox hxl hxs
      go_wp2_with (at_builtin; refine wpList_append_own_at _ rfl _ _ 24 rfl (w.heap.size + 2) 96 j0 (.agg #[.int .i64 0, .slice none 0 0]) 2 32 Tryz.underlying24 hj hy0 hy1 hy2 rfl (by decide) _ _ _ rfl (HOX2.out _) ⟨W3.heap.size, 0, none⟩ 1 1 (rowC ⟨(nthC C k).f, M1, c1, rs1⟩) rfl rfl (blk_news (Blk.new _ _ _)) (rowC_one _) ?c3 ?c4 ?c5 ?_)
      case c3 => unfold maxLen; omega
      case c4 => omega
      case c5 => have := HM3.out.size; simp; omega
      intro v' w5 hown hg hnil hat
      obtain ⟨M5, c5, rfl, hAB5⟩ := (HM3.out.left.grow (HU.out _)).app (x := ⟨(nthC C k).f, M1, c1, rs1⟩) ((HA3.out.down hwz).grow (HU.out _)) (fun y hy q h1 h2 => by have h3 := blks_high (HM.out.left.rows.rows y hy) q h1; have h4 := blks_low HA3.out q h2; omega) HXS2.out.1 HXS2.out.2 hown hg
      obtain ⟨cu, hcu, _⟩ := (HM3.out.left.grow (HU.out (.cells #[.int .i64 (nthC C k).f, .slice (some ⟨M1, 0, none⟩) rs1.length c1] 96))).outer
      have fr : ∀ {N : Nat} {ds : Array Value} {T : TypeId}, Blk W3 N ds T → T ≠ 96 → Blk w5 N ds T := fun h hT => blk_far (h.grow (HU.out _)) hg (fun e => blkT_ne (h.grow (HU.out _)) hcu hT (Option.some.inj e))
      have HO5 : Hid (Blk w5 (w.heap.size + 3) #[.int .i64 hd, .int .i64 vr, .slice (some ⟨M, 0, none⟩) cs.length c] 26) := fr HM3.out.out (by decide)
      have HM5 : Hid (Blk w5 w.heap.size #[.int .i64 hd, .int .i64 vr, .slice (some ⟨b, off, none⟩) C.length cap] 26 ∧ Blk w5 (w.heap.size + 1) #[.int .i64 0, .int .i64 0, .slice none 0 0] 26 ∧ CB (w.heap.size + 2) w5 M5 c5 (cs ++ [⟨(nthC C k).f, M1, c1, rs1⟩]) ∧ Below w.heap.size w w5 ∧ w.heap.size + 4 ≤ w5.heap.size) := ⟨fr HM3.out.part (by decide), fr HM3.out.res (by decide), hAB5, (grow_on HM3.out.low (HU.out _)).grown hg (by have := HM3.out.size; simp; omega) (fun q e => by have h : M = q := Option.some.inj e; have := HM3.out.left.at'; omega), Nat.le_trans (Nat.le_trans HM3.out.size (HU.out (.cells #[.int .i64 (nthC C k).f, .slice (some ⟨M1, 0, none⟩) rs1.length c1] 96)).size) hg.size⟩
      have HP5 : Hid (chs (cs ++ [⟨(nthC C k).f, M1, c1, rs1⟩]) = C.take (k + 1)) := by
        show _ = _
        rw [chs_app, HP.out, takeC_up hlt]
        congr 2
        unfold CRow.ch
        rw [HA.out.2]
      have hl5 : (cs ++ [(⟨(nthC C k).f, M1, c1, rs1⟩ : CRow)]).length = cs.length + 1 := by simp
      have o0 : w5.cell? ⟨w.heap.size + 3, 2, none⟩ = some (.slice (some ⟨M, 0, none⟩) cs.length c) := HO5.out.cell 2
      have fo := HO5.out.frozen 2
      clear hown hg hnil hat hAB5 hcu fr x0 x1 o2 hW3
      rw [← hl5]
      generalize hqq : cs ++ [(⟨(nthC C k).f, M1, c1, rs1⟩ : CRow)] = ds at HM5 HP5 ⊢
      clear hqq hl5
      go_wp2
      go_roundw
      case rel =>
        refine ⟨k + 1, M5, c5, ds, by go_num, by omega, ⟨HM5.out.1.set_other (by show w.heap.size + 3 ≠ w.heap.size; omega) _, HM5.out.2.1.set_other (by show w.heap.size + 3 ≠ w.heap.size + 1; omega) _, HO5.out.set 2 _, CB.set' HM5.out.2.2.1 HO5.out _ _, HM5.out.2.2.2.1.setCell (by show w.heap.size ≤ w.heap.size + 3; omega) _, by rw [size_setCell]; exact HM5.out.2.2.2.2⟩, HP5.out⟩
      case measure => simp [intOf]; omega
    · have hge : ¬ (k : Int) < (C.length : Int) := by omega
      have HF : Hid (chs cs = C) := by show _ = _; rw [HP.out]; exact List.take_of_length_le (by omega)
      have hO := HM.out.out
      have hR := HM.out.res
      have o0 : wr.cell? ⟨w.heap.size + 3, 0, none⟩ = some (.int .i64 hd) := hO.cell 0
      have o1 : wr.cell? ⟨w.heap.size + 3, 1, none⟩ = some (.int .i64 vr) := hO.cell 1
      have o2 : wr.cell? ⟨w.heap.size + 3, 2, none⟩ = some (.slice (some ⟨M, 0, none⟩) cs.length c) := hO.cell 2
      have r0 : wr.cell? ⟨w.heap.size + 1, 0, none⟩ = some (.int .i64 0) := hR.cell 0
      have r1 : wr.cell? ⟨w.heap.size + 1, 1, none⟩ = some (.int .i64 0) := hR.cell 1
      have r2 : wr.cell? ⟨w.heap.size + 1, 2, none⟩ = some (.slice none 0 0) := hR.cell 2
      have f0 := hR.frozen 0
      have f1 := hR.frozen 1
      have f2 := hR.frozen 2
      clear hO hR
      go_wp2
      have hs := put3 HM.out.res (.int .i64 hd) (.int .i64 vr) (.slice (some ⟨M, 0, none⟩) cs.length c)
      have s0 := hs.cell 0
      have s1 := hs.cell 1
      have s2 := hs.cell 2
      refine bodyPost_ret (v := .agg #[.int .i64 hd, .int .i64 vr, .slice (some ⟨M, 0, none⟩) cs.length c]) (by simp [results, Tryz.results69, go_sem, s0, s1, s2]) rfl ?_
      exact ⟨⟨M, c, cs, rfl, (CB.set3 HM.out.left HM.out.res _ _ _).down (by omega), HF.out⟩, set3 HM.out.low (by omega) _ _ _⟩

def posTo (C : List PCh) (f : Int) : Nat → Nat
  | 0 => 0
  | k + 1 => if posTo C f k = k ∧ (nthC C k).f < f then k + 1 else posTo C f k
def posB (C : List PCh) (f : Int) : Nat := posTo C f C.length
theorem posTo_le (C : List PCh) (f : Int) : ∀ k, posTo C f k ≤ k
  | 0 => Nat.le_refl _
  | k + 1 => by have := posTo_le C f k; rw [posTo]; split <;> omega
theorem posTo_all {C : List PCh} {f : Int} : ∀ {k : Nat}, (∀ j, j < k → (nthC C j).f < f) → posTo C f k = k
  | 0, _ => rfl
  | k + 1, h => by rw [posTo, posTo_all (fun j hj => h j (by omega)), if_pos ⟨rfl, h k (by omega)⟩]
theorem posTo_at {C : List PCh} {f : Int} {i : Nat} (h : ∀ j, j < i → (nthC C j).f < f) (hi : ¬ (nthC C i).f < f) : ∀ {k : Nat}, i < k → posTo C f k = i
  | 0, q => by omega
  | k + 1, q => by
    by_cases e : i = k
    · subst e
      rw [posTo, posTo_all h, if_neg (fun x => hi x.2)]
    · have := posTo_at h hi (k := k) (by omega)
      rw [posTo, this, if_neg (fun x => by omega)]
theorem pos_all {C : List PCh} {f : Int} (h : ∀ j, j < C.length → (nthC C j).f < f) : posB C f = C.length := posTo_all h
theorem pos_at {C : List PCh} {f : Int} {i : Nat} (h : ∀ j, j < i → (nthC C j).f < f) (hi : ¬ (nthC C i).f < f) (hl : i < C.length) : posB C f = i := posTo_at h hi hl
theorem pos_le (C : List PCh) (f : Int) : posB C f ≤ C.length := posTo_le C f _
def putC (C : List PCh) (x : PAl) : List PCh :=
  match atO C (fingerB x.l) with
  | some k => C.set k ⟨(nthC C k).f, putL (nthC C k).P x⟩
  | none => C.take (posB C (fingerB x.l)) ++ ⟨fingerB x.l, [x]⟩ :: C.drop (posB C (fingerB x.l))
def newC (C : List PCh) (x : PAl) : Bool :=
  match atO C (fingerB x.l) with
  | some k => isNew (nthC C k).P x.l
  | none => true
theorem put_some {C : List PCh} {x : PAl} {k : Nat} (h : atO C (fingerB x.l) = some k) : putC C x = C.set k ⟨(nthC C k).f, putL (nthC C k).P x⟩ ∧ newC C x = isNew (nthC C k).P x.l := by unfold putC newC; rw [h]; exact ⟨rfl, rfl⟩
theorem put_none {C : List PCh} {x : PAl} (h : atO C (fingerB x.l) = none) : putC C x = C.take (posB C (fingerB x.l)) ++ ⟨fingerB x.l, [x]⟩ :: C.drop (posB C (fingerB x.l)) ∧ newC C x = true := by unfold putC newC; rw [h]; exact ⟨rfl, rfl⟩
end Go.Proofs.YtooninmicfcfoaaGreat.PrtC
