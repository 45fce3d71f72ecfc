/-
  PROVED: over a part in memory impl.FindIn gives a copy of the first alarm of the labels in the first chain of their number, as a plain function on lists of chains says; nothing that was there is changed.
  PROVED: what FindIn answers, case by case, of both sides; what an alarm that was found is; marks and their search in an alarm without labels.
  PROVED: over a slice of parts in memory spec.HomeOf and impl.HomeOf answer alike, as a plain function says; so does impl.homePart, by a pointer; nothing that was there is changed.
  PROVED: over a slice of parts and a slice of labels in memory spec.FindAlarm and impl.FindAlarm answer alike, as a plain function says, in memory of their own; nothing that was there is changed.
-/
import Derived.Test.YtooninmicfcfoaaGreatQPrtF
import Derived.Test.YtooninmicfcfoaaGreatQPrtH
import Derived.Test.YtooninmicfcfoaaGreatQSts
import Derived.Test.YtooninmicfcfoaaGreatQPrt
set_option linter.unusedVariables false
namespace Go.Proofs.YtooninmicfcfoaaGreat.PrtI
open Go.RowKit
open Labs LabS Alms AlmS AlmM Over Blk App Rws ChnI ChnC ChnP ChnS ChnK Chs Prt PrtO PrtF PrtH Mps
open Fing (fingerB)

theorem cntF_zero {C : List PCh} {f : Int} : ∀ {k : Nat}, (∀ j, j < k → (nthC C j).f ≠ f) → cntF C f k = 0
  | 0, _ => rfl
  | k + 1, h => by rw [cntF, cntF_zero (fun j hj => h j (by omega)), if_neg (h k (by omega))]
theorem shG_first {C : List PCh} {val : Nat → Value} {f : Int} {k : Nat} (hk : k < C.length) (hf : (nthC C k).f = f) (h : ∀ j, j < k → (nthC C j).f ≠ f) : shG C val C.length (f, 0) = some (val k) := by
  have e : keyC C k = (f, 0) := by unfold keyC; rw [hf, cntF_zero h]; rfl
  rw [← e]; exact shG_at hk
theorem shG_miss {C : List PCh} {val : Nat → Value} {f z : Int} (h : ∀ j, j < C.length → (nthC C j).f ≠ f) : shG C val C.length (f, z) = none :=
  shG_no fun i hi e => h i hi (congrArg Prod.fst e).symm
theorem fieldM (f : Option Nat) (a : Option Addr) (n c : Nat) (w : World) : (Instr.field 90 (.agg #[.map f, .slice a n c]) 0).run Tryz.prog w = .ok (.map f) w := by kernel_rfl
set_option maxRecDepth 100000 in
set_option maxHeartbeats 1600000 in
theorem implFind_any (hd vr : Int) (a a' : Option Addr) (cap cap' : Nat) (C : List PCh) (l : List Lab) (w : World) (hr : RdG RdA w a C) (hr' : Reads w a' l) (hl : C.length ≤ 1048576) (hs : Small C) (hll : l.length ≤ maxLen) (hlf : LabT.Fits l) :
    Calls Tryz.prog 12 #[.agg #[.int .i64 hd, .int .i64 vr, .slice a C.length cap], .slice a' l.length cap'] w fun e w' => PrtF.Found w w' e (findB C l) ∧ Below w.heap.size w w' := by
  have HR : Hid (RdG RdA w a C ∧ Reads w a' l ∧ Small C ∧ l.length ≤ maxLen ∧ LabT.Fits l) := ⟨hr, hr', hs, hll, hlf⟩
  clear hr hr' hs hll hlf
  go_enter Tryz.func12, Tryz.ntmps12
  go_wp2_with fail
  obtain ⟨W0, hW0⟩ : ∃ W0, (w.alloc (.cells #[.int .i64 hd, .int .i64 vr, .slice a C.length cap] 26)).alloc (.cells #[.slice none 0 0, .int .i64 0, .int .i64 0, .string ByteArray.empty] 29) = W0 := ⟨_, rfl⟩
  have HW0 : Hid (Below w.heap.size w W0 ∧ Blk W0 w.heap.size #[.int .i64 hd, .int .i64 vr, .slice a C.length cap] 26 ∧ Blk W0 (w.heap.size + 1) #[.slice none 0 0, .int .i64 0, .int .i64 0, .string ByteArray.empty] 29) := by
    rw [← hW0]
    exact ⟨Go.Joins.below_alloc2 w _ _, (Blk.new _ _ _).alloc _, Blk.new_at (by simp)⟩
  have hW0' : (w.alloc (.cells #[.int .i64 hd, .int .i64 vr, .slice a C.length cap] 26)).alloc (.cells #[.slice none 0 0, .int .i64 0, .int .i64 0, .string ⟨#[]⟩] 29) = W0 := hW0
  first | rw [hW0'] | rw [hW0]
  clear hW0 hW0'
  refine (shelve_any a cap C W0 (HR.out.1.below stays_rd HW0.out.1) hl).mono ?_
  rintro e w2 ⟨⟨Mm, Ms, rfl, ad, cp, hsh⟩, hb2⟩
  have HSH : Hid (Shelved W0.heap.size W0 w2 C ad cp Mm Ms) := hsh
  have HB2 : Hid (Below W0.heap.size W0 w2) := hb2
  have hfd := fieldM
  clear hsh hb2
  go_wp2_with fail
  refine (Fing.implFinger_any a' cap' l w2 (HR.out.2.1.below (grow_on HW0.out.1 HB2.out)) HR.out.2.2.2.1 HR.out.2.2.2.2).mono ?_
  rintro e w3 ⟨rfl, hb3⟩
  have HB3 : Hid (Below W0.heap.size W0 w3) := grow_on HB2.out hb3
  have HM3 : Hid (MapG TwoK w3 Mm (shG C (fun i => chV (nthC C i) (ad i) (cp i)) C.length)) := HSH.out.map.grow hb3
  clear hb3 hfd
  rcases at_cases C (fingerB l) with ⟨h0, h1, h2⟩ | ⟨k, h0, h1, hk, h3, h4⟩
  · have HE : Hid (findB C l = none) := find_1 h0
    have HLk : Hid ((shG C (fun i => chV (nthC C i) (ad i) (cp i)) C.length ((fingerB l : Int), 0)).getD (.agg #[.int .i64 0, .slice none 0 0]) = .agg #[.int .i64 0, .slice none 0 0]) := by show Option.getD _ _ = _; rw [shG_miss h2]; rfl
    clear h0 h1 h2
    go_wp2_with (at_lookup; refine wp_lookup _ rfl _ _ 87 false rfl 94 96 TwoK asked_slot Tryz.underlying87 (zeroC _) Mm (shG C (fun i => chV (nthC C i) (ad i) (cp i)) C.length) rfl HM3.out ((fingerB l : Int), 0) rfl (.agg #[.int .i64 0, .slice none 0 0]) HLk.out ?_)
    go_wp2_with fail
    refine (implIn_any 0 none a' 0 cap' [] l _ (.inl rfl) ((HR.out.2.1.below (grow_on HW0.out.1 HB3.out)).below (Go.Joins.below_alloc1 w3 _)) (by simp) (fun i hi => by simp at hi) HR.out.2.2.2.1).mono ?_
    rintro e w4 ⟨rfl, hb4⟩
    have HB4 : Hid (Below W0.heap.size W0 w4) := grow_on (grow_on HB3.out (Go.Joins.below_alloc1 w3 _)) hb4
    have hi1 : idxB [] l = -1 := idx_miss (fun j hj => by simp at hj)
    rw [hi1]
    clear hb4 hi1
    have HRs : Hid (Blk w4 (w.heap.size + 1) #[.slice none 0 0, .int .i64 0, .int .i64 0, .string ByteArray.empty] 29) := HW0.out.2.2.grow HB4.out
    have r0 : w4.cell? ⟨w.heap.size + 1, 0, none⟩ = some (.slice none 0 0) := HRs.out.cell 0
    have r1 : w4.cell? ⟨w.heap.size + 1, 1, none⟩ = some (.int .i64 0) := HRs.out.cell 1
    have r2 : w4.cell? ⟨w.heap.size + 1, 2, none⟩ = some (.int .i64 0) := HRs.out.cell 2
    have r3 : w4.cell? ⟨w.heap.size + 1, 3, none⟩ = some (.string ByteArray.empty) := HRs.out.cell 3
    have f0 := HRs.out.frozen 0
    have f1 := HRs.out.frozen 1
    have f2 := HRs.out.frozen 2
    have f3 := HRs.out.frozen 3
    go_wp2
    have hs := Alm.put4 HRs.out (.slice none 0 0) (.int .i64 0) (.int .i64 0) (.string ⟨#[]⟩)
    have s0 := hs.cell 0
    have s1 := hs.cell 1
    have s2 := hs.cell 2
    have s3 := hs.cell 3
    refine bodyPost_ret (v := .tuple #[.agg #[.slice none 0 0, .int .i64 0, .int .i64 0, .string ⟨#[]⟩], .bool false]) (by simp [results, Tryz.results12, go_sem, s0, s1, s2, s3]) rfl ?_
    rw [HE.out]
    exact ⟨rfl, Alm.set4 (grow_on HW0.out.1 HB4.out) (by omega) _ _ _ _⟩
  · have HK : Hid (atO C (fingerB l) = some k) := h0
    have HLk : Hid ((shG C (fun i => chV (nthC C i) (ad i) (cp i)) C.length ((fingerB l : Int), 0)).getD (.agg #[.int .i64 0, .slice none 0 0]) = .agg #[.int .i64 (nthC C k).f, .slice (ad k) (nthC C k).P.length (cp k)]) := by show Option.getD _ _ = _; rw [shG_first hk h3 h4]; rfl
    clear h0 h1 h3 h4
    go_wp2_with (at_lookup; refine wp_lookup _ rfl _ _ 87 false rfl 94 96 TwoK asked_slot Tryz.underlying87 (zeroC _) Mm (shG C (fun i => chV (nthC C i) (ad i) (cp i)) C.length) rfl HM3.out ((fingerB l : Int), 0) rfl (.agg #[.int .i64 (nthC C k).f, .slice (ad k) (nthC C k).P.length (cp k)]) HLk.out ?_)
    have HS : Hid ((nthC C k).P.length ≤ 1048576 ∧ LenM (nthC C k).P) := HR.out.2.2.1 _ (nthC_mem hk)
    have HRD : Hid (RdA w3 (ad k) (nthC C k).P) := (HSH.out.reads k hk).below HB3.out
    go_wp2_with fail
    obtain ⟨W4, hW4⟩ : ∃ W4, w3.alloc (.cells #[.int .i64 (nthC C k).f, .slice (ad k) (nthC C k).P.length (cp k)] 96) = W4 := ⟨_, rfl⟩
    have H4 : Hid (Below w3.heap.size w3 W4 ∧ Blk W4 w3.heap.size #[.int .i64 (nthC C k).f, .slice (ad k) (nthC C k).P.length (cp k)] 96) := by
      rw [← hW4]
      exact ⟨Go.Joins.below_alloc1 w3 _, Blk.new _ _ _⟩
    try rw [hW4]
    clear hW4
    refine (implIn_any _ (ad k) a' (cp k) cap' (nthC C k).P l W4 (HRD.out.below H4.out.1) ((HR.out.2.1.below (grow_on HW0.out.1 HB3.out)).below H4.out.1) HS.out.1 (len_m HS.out.2) HR.out.2.2.2.1).mono ?_
    rintro e w5 ⟨rfl, hb5⟩
    have HB5 : Hid (Below W0.heap.size W0 w5) := grow_on (grow_on HB3.out H4.out.1) hb5
    have HK5 : Hid (Blk w5 w3.heap.size #[.int .i64 (nthC C k).f, .slice (ad k) (nthC C k).P.length (cp k)] 96) := H4.out.2.grow hb5
    have HRD5 : Hid (RdA w5 (ad k) (nthC C k).P) := (HRD.out.below H4.out.1).below hb5
    clear hb5
    rcases idx_cases (nthC C k).P l with ⟨i1, i2⟩ | ⟨i, i1, hi, i3, i4⟩
    · have HE : Hid (findB C l = none) := find_2 HK.out i2
      rw [i1]
      clear i1 i2
      have HRs : Hid (Blk w5 (w.heap.size + 1) #[.slice none 0 0, .int .i64 0, .int .i64 0, .string ByteArray.empty] 29) := HW0.out.2.2.grow HB5.out
      have r0 : w5.cell? ⟨w.heap.size + 1, 0, none⟩ = some (.slice none 0 0) := HRs.out.cell 0
      have r1 : w5.cell? ⟨w.heap.size + 1, 1, none⟩ = some (.int .i64 0) := HRs.out.cell 1
      have r2 : w5.cell? ⟨w.heap.size + 1, 2, none⟩ = some (.int .i64 0) := HRs.out.cell 2
      have r3 : w5.cell? ⟨w.heap.size + 1, 3, none⟩ = some (.string ByteArray.empty) := HRs.out.cell 3
      have f0 := HRs.out.frozen 0
      have f1 := HRs.out.frozen 1
      have f2 := HRs.out.frozen 2
      have f3 := HRs.out.frozen 3
      go_wp2
      have hs := Alm.put4 HRs.out (.slice none 0 0) (.int .i64 0) (.int .i64 0) (.string ⟨#[]⟩)
      have s0 := hs.cell 0
      have s1 := hs.cell 1
      have s2 := hs.cell 2
      have s3 := hs.cell 3
      refine bodyPost_ret (v := .tuple #[.agg #[.slice none 0 0, .int .i64 0, .int .i64 0, .string ⟨#[]⟩], .bool false]) (by simp [results, Tryz.results12, go_sem, s0, s1, s2, s3]) rfl ?_
      rw [HE.out]
      exact ⟨rfl, Alm.set4 (grow_on HW0.out.1 HB5.out) (by omega) _ _ _ _⟩
    · have HE : Hid (findB C l = some (nthP (nthC C k).P i)) := find_3 HK.out i4 i3 hi
      rw [i1]
      have hi' : (i : Int) < ((nthC C k).P.length : Int) := by omega
      have q1 : w5.cell? ⟨w3.heap.size, 1, none⟩ = some (.slice (ad k) (nthC C k).P.length (cp k)) := HK5.out.cell 1
      obtain ⟨b1, off1, ea, hb1, g, cp1, hat⟩ := HRD5.out.get hi
      rw [ea] at q1 ⊢
      have u0 := hat.c0
      have u1 := hat.c1
      have u2 := hat.c2
      have u3 := hat.c3
      have HRL : Hid (Reads w5 g (nthP (nthC C k).P i).l) := hat.reads
      clear hat hb1 i1 i3 i4
      go_wp2_with fail
      refine (copyI_any g cp1 _ _ _ _ w5 HRL.out (HS.out.2 i hi)).mono ?_
      rintro e w6 ⟨⟨M, c, rfl, hO⟩, hb6⟩
      have HB6 : Hid (Below W0.heap.size W0 w6) := grow_on HB5.out hb6
      have HO : Hid (LabR.Own w w6 M (nthP (nthC C k).P i).l) := ⟨Nat.le_trans (grow_on HW0.out.1 HB5.out).size hO.1, hO.2⟩
      have HML : Hid (W0.heap.size ≤ M) := Nat.le_trans HB5.out.size hO.1
      clear hb6 hO q1 u0 u1 u2 u3
      have HRs : Hid (Blk w6 (w.heap.size + 1) #[.slice none 0 0, .int .i64 0, .int .i64 0, .string ByteArray.empty] 29) := HW0.out.2.2.grow HB6.out
      have r0 : w6.cell? ⟨w.heap.size + 1, 0, none⟩ = some (.slice none 0 0) := HRs.out.cell 0
      have r1 : w6.cell? ⟨w.heap.size + 1, 1, none⟩ = some (.int .i64 0) := HRs.out.cell 1
      have r2 : w6.cell? ⟨w.heap.size + 1, 2, none⟩ = some (.int .i64 0) := HRs.out.cell 2
      have r3 : w6.cell? ⟨w.heap.size + 1, 3, none⟩ = some (.string ByteArray.empty) := HRs.out.cell 3
      have f0 := HRs.out.frozen 0
      have f1 := HRs.out.frozen 1
      have f2 := HRs.out.frozen 2
      have f3 := HRs.out.frozen 3
      go_wp2
      have hs := Alm.put4 HRs.out (.slice (some ⟨M, 0, none⟩) (nthP (nthC C k).P i).l.length c) (.int .i64 (nthP (nthC C k).P i).s) (.int .i64 (nthP (nthC C k).P i).e) (.string (nthP (nthC C k).P i).n)
      have s0 := hs.cell 0
      have s1 := hs.cell 1
      have s2 := hs.cell 2
      have s3 := hs.cell 3
      refine bodyPost_ret (v := .tuple #[.agg #[.slice (some ⟨M, 0, none⟩) (nthP (nthC C k).P i).l.length c, .int .i64 (nthP (nthC C k).P i).s, .int .i64 (nthP (nthC C k).P i).e, .string (nthP (nthC C k).P i).n], .bool true]) (by simp [results, Tryz.results12, go_sem, s0, s1, s2, s3]) rfl ?_
      rw [HE.out]
      obtain ⟨q1, ds, q2, q3⟩ := HO.out
      exact ⟨⟨M, _, rfl, q1, ds, Alm.blk4 q2 (by have := HML.out; have := HW0.out.2.2.lt; omega) _ _ _ _, q3⟩, Alm.set4 (grow_on HW0.out.1 HB6.out) (by omega) _ _ _ _⟩
end Go.Proofs.YtooninmicfcfoaaGreat.PrtI
namespace Go.Proofs.YtooninmicfcfoaaGreat.PrtJ
open Go.RowKit
open Labs LabS Alms AlmS AlmM Over Blk App Rws ChnC ChnK Chs Prt PrtO PrtF
open Fing (fingerB)
theorem specFind_no (hd vr : Int) (a a' : Option Addr) (cap cap' : Nat) (C : List PCh) (l : List Lab) (w : World) (hr : RdG RdN w a C) (hr' : Reads w a' l) (hl : C.length ≤ 1048576) (hs : Small C) (hll : l.length ≤ maxLen) (hlf : LabT.Fits l) (hF : findB C l = none) :
    Calls Tryz.prog 13 #[.agg #[.int .i64 hd, .int .i64 vr, .slice a C.length cap], .slice a' l.length cap'] w fun e w' => e = .returned (.tuple #[.agg #[.slice none 0 0, .int .i64 0, .int .i64 0, .string ByteArray.empty], .bool false]) ∧ Below w.heap.size w w' :=
  (specFind_any hd vr a a' cap cap' C l w hr hr' hl hs hll hlf).mono fun e w' h => by
    rw [hF] at h
    exact h
theorem specFind_yes (hd vr : Int) (a a' : Option Addr) (cap cap' : Nat) (C : List PCh) (l : List Lab) (x : PAl) (w : World) (hr : RdG RdN w a C) (hr' : Reads w a' l) (hl : C.length ≤ 1048576) (hs : Small C) (hll : l.length ≤ maxLen) (hlf : LabT.Fits l) (hF : findB C l = some x) :
    Calls Tryz.prog 13 #[.agg #[.int .i64 hd, .int .i64 vr, .slice a C.length cap], .slice a' l.length cap'] w fun e w' => (∃ M c, e = .returned (.tuple #[.agg #[.slice (some ⟨M, 0, none⟩) x.l.length c, .int .i64 x.s, .int .i64 x.e, .string x.n], .bool true]) ∧ LabR.Own w w' M x.l) ∧ Below w.heap.size w w' :=
  (specFind_any hd vr a a' cap cap' C l w hr hr' hl hs hll hlf).mono fun e w' h => by
    rw [hF] at h
    exact h
theorem implFind_no (hd vr : Int) (a a' : Option Addr) (cap cap' : Nat) (C : List PCh) (l : List Lab) (w : World) (hr : RdG RdA w a C) (hr' : Reads w a' l) (hl : C.length ≤ 1048576) (hs : Small C) (hll : l.length ≤ maxLen) (hlf : LabT.Fits l) (hF : findB C l = none) :
    Calls Tryz.prog 12 #[.agg #[.int .i64 hd, .int .i64 vr, .slice a C.length cap], .slice a' l.length cap'] w fun e w' => e = .returned (.tuple #[.agg #[.slice none 0 0, .int .i64 0, .int .i64 0, .string ByteArray.empty], .bool false]) ∧ Below w.heap.size w w' :=
  (PrtI.implFind_any hd vr a a' cap cap' C l w hr hr' hl hs hll hlf).mono fun e w' h => by
    rw [hF] at h
    exact h
theorem implFind_yes (hd vr : Int) (a a' : Option Addr) (cap cap' : Nat) (C : List PCh) (l : List Lab) (x : PAl) (w : World) (hr : RdG RdA w a C) (hr' : Reads w a' l) (hl : C.length ≤ 1048576) (hs : Small C) (hll : l.length ≤ maxLen) (hlf : LabT.Fits l) (hF : findB C l = some x) :
    Calls Tryz.prog 12 #[.agg #[.int .i64 hd, .int .i64 vr, .slice a C.length cap], .slice a' l.length cap'] w fun e w' => (∃ M c, e = .returned (.tuple #[.agg #[.slice (some ⟨M, 0, none⟩) x.l.length c, .int .i64 x.s, .int .i64 x.e, .string x.n], .bool true]) ∧ LabR.Own w w' M x.l) ∧ Below w.heap.size w w' :=
  (PrtI.implFind_any hd vr a a' cap cap' C l w hr hr' hl hs hll hlf).mono fun e w' h => by
    rw [hF] at h
    exact h
end Go.Proofs.YtooninmicfcfoaaGreat.PrtJ
namespace Go.Proofs.YtooninmicfcfoaaGreat.StsH
open Go.RowKit
open Labs LabS Over Blk Chs Prt Sts
open Fing (fingerB finger_lt)
open Sums (partB)

def homeN (n : Nat) (l : List Lab) : Nat := if n = 0 then 0 else fingerB l % n
theorem home_lt {n : Nat} {l : List Lab} (h : 0 < n) : homeN n l < n := by unfold homeN; rw [if_neg (by omega)]; exact Nat.mod_lt _ h
theorem home_part (n : Nat) (l : List Lab) : partB (fingerB l : Int) (n : Int) = (homeN n l : Int) := by
  unfold partB homeN
  by_cases h : n = 0
  · rw [if_pos (by omega), if_pos h]; rfl
  · rw [if_neg (by omega), if_neg h]; omega
theorem specHome_any (a a' : Option Addr) (n cap cap' : Nat) (l : List Lab) (w : World) (hr : Reads w a' l) (hn : n ≤ maxLen) (hl : l.length ≤ maxLen) (hz : LabT.Fits l) :
    Calls Tryz.prog 49 #[.slice a n cap, .slice a' l.length cap'] w fun e w' => e = .returned (.int .i64 (homeN n l)) ∧ Below w.heap.size w w' := by
  unfold maxLen at hn
  have HC : Hid (Calls Tryz.prog 70 #[.slice a' l.length cap'] w fun e w' => e = .returned (.int .i64 (fingerB l)) ∧ Below w.heap.size w w') := Fing.specFinger_any a' cap' l w hr hl hz
  have HE : Hid (partB (fingerB l : Int) (n : Int) = (homeN n l : Int)) := home_part n l
  have hf := finger_lt l
  clear hr hl hz
  generalize homeN n l = h at HE ⊢
  generalize fingerB l = f at HC HE hf
  go_enter Tryz.func49, Tryz.ntmps49
  go_wp2_with fail
  refine HC.out.mono ?_
  rintro e w1 ⟨rfl, hb⟩
  have HB : Hid (Below w.heap.size w w1) := hb
  clear hb
  go_wp2_with fail
  refine (Sums.specPart_any (f : Int) (n : Int) _ (by omega) (by omega) (by omega) (by omega)).mono ?_
  rintro e w2 ⟨rfl, rfl⟩
  rw [HE.out]
  go_wp2
  go_ret
  exact ⟨rfl, HB.out⟩
theorem implHome_any (a a' : Option Addr) (n cap cap' : Nat) (l : List Lab) (w : World) (hr : Reads w a' l) (hn : n ≤ maxLen) (hl : l.length ≤ maxLen) (hz : LabT.Fits l) :
    Calls Tryz.prog 48 #[.slice a n cap, .slice a' l.length cap'] w fun e w' => e = .returned (.int .i64 (homeN n l)) ∧ Below w.heap.size w w' := by
  unfold maxLen at hn
  have HC : Hid (Calls Tryz.prog 65 #[.slice a' l.length cap'] w fun e w' => e = .returned (.int .i64 (fingerB l)) ∧ Below w.heap.size w w') := Fing.implFinger_any a' cap' l w hr hl hz
  have HE : Hid (partB (fingerB l : Int) (n : Int) = (homeN n l : Int)) := home_part n l
  have hf := finger_lt l
  clear hr hl hz
  generalize homeN n l = h at HE ⊢
  generalize fingerB l = f at HC HE hf
  go_enter Tryz.func48, Tryz.ntmps48
  go_wp2_with fail
  refine HC.out.mono ?_
  rintro e w1 ⟨rfl, hb⟩
  have HB : Hid (Below w.heap.size w w1) := hb
  clear hb
  go_wp2_with fail
  refine (Sums.implPart_any (f : Int) (n : Int) _ (by omega) (by omega) (by omega) (by omega)).mono ?_
  rintro e w2 ⟨rfl, rfl⟩
  rw [HE.out]
  go_wp2
  go_ret
  exact ⟨rfl, HB.out⟩
theorem homeNone_any (a a' : Option Addr) (cap cap' : Nat) (l : List Lab) (w : World) :
    Calls Tryz.prog 98 #[.slice a 0 cap, .slice a' l.length cap'] w fun e w' => e = .returned (.pointer none) ∧ w' = w := by
  go_enter Tryz.func98, Tryz.ntmps98
  go_wp2
  go_ret
  exact ⟨rfl, rfl⟩
theorem homePart_any (b off n cap cap' : Nat) (a' : Option Addr) (l : List Lab) (w : World) (h0 : 0 < n) (hr : Reads w a' l) (hn : n ≤ maxLen) (hl : l.length ≤ maxLen) (hz : LabT.Fits l) :
    Calls Tryz.prog 98 #[.slice (some ⟨b, off, none⟩) n cap, .slice a' l.length cap'] w fun e w' => e = .returned (.pointer (some ⟨b, off + homeN n l * 3, none⟩)) ∧ Below w.heap.size w w' := by
  unfold maxLen at hn
  have HC : Hid (Calls Tryz.prog 48 #[.slice (some ⟨b, off, none⟩) n cap, .slice a' l.length cap'] w fun e w' => e = .returned (.int .i64 (homeN n l)) ∧ Below w.heap.size w w') := implHome_any _ _ n cap cap' l w hr (by unfold maxLen; omega) hl hz
  have hk := home_lt (l := l) h0
  have hne : ((n : Int) == 0) = false := by simp; omega
  have hne2 : ¬ n = 0 := by omega
  clear hr hl hz
  generalize homeN n l = h at HC hk ⊢
  have hk' : (h : Int) < (n : Int) := by omega
  go_enter Tryz.func98, Tryz.ntmps98
  go_wp2_with fail
  refine HC.out.mono ?_
  rintro e w1 ⟨rfl, hb⟩
  have HB : Hid (Below w.heap.size w w1) := hb
  clear hb
  go_wp2
  go_ret
  exact ⟨rfl, HB.out⟩
end Go.Proofs.YtooninmicfcfoaaGreat.StsH
namespace Go.Proofs.YtooninmicfcfoaaGreat.StsF
open Go.RowKit
open Labs LabS Alms Rws Over Blk Chs Prt PrtF PrtJ Sts StsH

def findS (S : List PPt) (l : List Lab) : Option PAl := if S.length = 0 then none else findB (nthT S (homeN S.length l)).C l
theorem findS_none {S : List PPt} {l : List Lab} (h : S.length = 0) : findS S l = none := if_pos h
theorem findS_some {S : List PPt} {l : List Lab} (h : ¬ S.length = 0) : findS S l = findB (nthT S (homeN S.length l)).C l := if_neg h
theorem found_no {w w' : World} {e : Ending} {o : Option PAl} (h : o = none) (he : e = .returned (.tuple #[.agg #[.slice none 0 0, .int .i64 0, .int .i64 0, .string ByteArray.empty], .bool false])) : PrtF.Found w w' e o := by rw [h]; exact he
theorem found_yes {w w' : World} {e : Ending} {o : Option PAl} {x : PAl} {M c : Nat} (h : o = some x) (he : e = .returned (.tuple #[.agg #[.slice (some ⟨M, 0, none⟩) x.l.length c, .int .i64 x.s, .int .i64 x.e, .string x.n], .bool true])) (ho : LabR.Own w w' M x.l) : PrtF.Found w w' e o := by rw [h]; exact ⟨M, c, he, ho⟩
theorem own_low {w z w' : World} {M : Nat} {p : List Lab} (h : LabR.Own z w' M p) (hz : w.heap.size ≤ z.heap.size) : LabR.Own w w' M p := ⟨Nat.le_trans hz h.1, h.2⟩
theorem own4 {w w' : World} {M A : Nat} {p : List Lab} {cs : Array Value} (h : LabR.Own w w' M p) (hA : Blk w' A cs 29) (v0 v1 v2 v3 : Value) : LabR.Own w ((((w'.setCell ⟨A, 0, none⟩ v0).setCell ⟨A, 1, none⟩ v1).setCell ⟨A, 2, none⟩ v2).setCell ⟨A, 3, none⟩ v3) M p := by
  obtain ⟨h0, ds, h1, h2⟩ := h
  have hne : A ≠ M := blkT_ne hA h1 (by decide)
  exact ⟨h0, ds, (((h1.set_other hne v0).set_other hne v1).set_other hne v2).set_other hne v3, h2⟩
set_option maxRecDepth 100000 in
set_option maxHeartbeats 3200000 in
theorem specFindA_any (a a' : Option Addr) (cap cap' : Nat) (S : List PPt) (l : List Lab) (w : World) (hr : RdS RdN w a S) (hr' : Reads w a' l) (hl : S.length ≤ 1048576) (hs : sumT S ≤ 1048576) (hll : l.length ≤ maxLen) (hlf : LabT.Fits l) :
    Calls Tryz.prog 40 #[.slice a S.length cap, .slice a' l.length cap'] w fun e w' => PrtF.Found w w' e (findS S l) ∧ Below w.heap.size w w' := by
  have HR : Hid (RdS RdN w a S ∧ Reads w a' l ∧ l.length ≤ maxLen ∧ LabT.Fits l ∧ sumT S ≤ 1048576) := ⟨hr, hr', hll, hlf, hs⟩
  clear hr hr' hs hll hlf
  go_enter Tryz.func40, Tryz.ntmps40
  go_upto_region 1 with fail
  obtain ⟨W0, hW0⟩ : ∃ W0, w.alloc (.cells #[.slice none 0 0, .int .i64 0, .int .i64 0, .string ByteArray.empty] 29) = W0 := ⟨_, rfl⟩
  have HW0 : Hid (Below w.heap.size w W0 ∧ Blk W0 w.heap.size #[.slice none 0 0, .int .i64 0, .int .i64 0, .string ByteArray.empty] 29) := by
    rw [← hW0]
    exact ⟨Go.Joins.below_alloc1 w _, Blk.new _ _ _⟩
  have hW0' : w.alloc (.cells #[.slice none 0 0, .int .i64 0, .int .i64 0, .string ⟨#[]⟩] 29) = W0 := hW0
  first | rw [hW0'] | rw [hW0]
  clear hW0 hW0'
  by_cases hne : S.length = 0
  · have HE : Hid (findS S l = none) := findS_none hne
    have HBr : Hid (Below W0.heap.size W0 W0) := Below.refl _ _
    rw [hne]
    have HRs : Hid (Blk W0 w.heap.size #[.slice none 0 0, .int .i64 0, .int .i64 0, .string ByteArray.empty] 29) := HW0.out.2.grow HBr.out
    have r0 : W0.cell? ⟨w.heap.size, 0, none⟩ = some (.slice none 0 0) := HRs.out.cell 0
    have f0 := HRs.out.frozen 0
    have r1 : W0.cell? ⟨w.heap.size, 1, none⟩ = some (.int .i64 0) := HRs.out.cell 1
    have f1 := HRs.out.frozen 1
    have r2 : W0.cell? ⟨w.heap.size, 2, none⟩ = some (.int .i64 0) := HRs.out.cell 2
    have f2 := HRs.out.frozen 2
    have r3 : W0.cell? ⟨w.heap.size, 3, none⟩ = some (.string ByteArray.empty) := HRs.out.cell 3
    have f3 := HRs.out.frozen 3
    go_wp2
    have hs := Alm.put4 HRs.out (.slice none 0 0) (.int .i64 0) (.int .i64 0) (.string ⟨#[]⟩)
    have s0 := hs.cell 0
    have s1 := hs.cell 1
    have s2 := hs.cell 2
    have s3 := hs.cell 3
    refine bodyPost_ret (v := .tuple #[.agg #[.slice none 0 0, .int .i64 0, .int .i64 0, .string ⟨#[]⟩], .bool false]) (by simp [results, Tryz.results40, go_sem, s0, s1, s2, s3]) rfl ?_
    exact ⟨found_no HE.out rfl, Alm.set4 (grow_on HW0.out.1 HBr.out) (Nat.le_refl _) _ _ _ _⟩
  obtain ⟨k, hkk⟩ : ∃ k, homeN S.length l = k := ⟨_, rfl⟩
  have HK : Hid (homeN S.length l = k) := hkk
  have hk : k < S.length := by rw [← hkk]; exact home_lt (by omega)
  have hk' : (k : Int) < (S.length : Int) := by omega
  have hne2 : ((S.length : Int) == 0) = false := by rw [beq_eq_false_iff_ne]; omega
  have HH : Hid (Calls Tryz.prog 49 #[.slice a S.length cap, .slice a' l.length cap'] W0 fun e w' => e = .returned (.int .i64 k) ∧ Below W0.heap.size W0 w') := by
    rw [← hkk]
    exact specHome_any a a' S.length cap cap' l W0 (HR.out.2.1.below HW0.out.1) (by unfold maxLen; omega) HR.out.2.2.1 HR.out.2.2.2.1
  clear hkk
  go_wp2_with fail
  refine HH.out.mono ?_
  rintro e w1 ⟨rfl, hb1⟩
  have HB1 : Hid (Below W0.heap.size W0 w1) := hb1
  clear hb1 HH
  obtain ⟨b, off, rfl, hb, ad, cp, hat⟩ := (HR.out.1.below stays_rn (grow_on HW0.out.1 HB1.out)).get hk
  have h2 := hat.c0
  have h3 := hat.c1
  have h4 := hat.c2
  have HA : Hid (RdG RdN w1 ad (nthT S k).C) := hat.reads
  have HSm : Hid ((nthT S k).C.length ≤ 1048576 ∧ PrtO.Small (nthT S k).C) := by have h0 := sumT_nth hk; have h1 := HR.out.2.2.2.2; exact ⟨by omega, small_of (by omega)⟩
  clear hat hb
  rcases hFB : findB (nthT S k).C l with _ | x
  · have HE : Hid (findS S l = none) := by show _ = _; rw [findS_some hne, HK.out, hFB]
    have HC : Hid (Calls Tryz.prog 13 #[.agg #[.int .i64 (nthT S k).hd, .int .i64 (nthT S k).vr, .slice ad (nthT S k).C.length cp], .slice a' l.length cap'] w1 fun e w' => e = .returned (.tuple #[.agg #[.slice none 0 0, .int .i64 0, .int .i64 0, .string ByteArray.empty], .bool false]) ∧ Below w1.heap.size w1 w') := specFind_no _ _ ad a' cp cap' _ l w1 HA.out (HR.out.2.1.below (grow_on HW0.out.1 HB1.out)) HSm.out.1 HSm.out.2 HR.out.2.2.1 HR.out.2.2.2.1 hFB
    clear hFB
    go_wp2_with fail
    refine HC.out.mono ?_
    rintro e w2 ⟨rfl, hb2⟩
    have HB2 : Hid (Below W0.heap.size W0 w2) := grow_on HB1.out hb2
    have HRs : Hid (Blk w2 w.heap.size #[.slice none 0 0, .int .i64 0, .int .i64 0, .string ByteArray.empty] 29) := HW0.out.2.grow HB2.out
    have r0 : w2.cell? ⟨w.heap.size, 0, none⟩ = some (.slice none 0 0) := HRs.out.cell 0
    have f0 := HRs.out.frozen 0
    have r1 : w2.cell? ⟨w.heap.size, 1, none⟩ = some (.int .i64 0) := HRs.out.cell 1
    have f1 := HRs.out.frozen 1
    have r2 : w2.cell? ⟨w.heap.size, 2, none⟩ = some (.int .i64 0) := HRs.out.cell 2
    have f2 := HRs.out.frozen 2
    have r3 : w2.cell? ⟨w.heap.size, 3, none⟩ = some (.string ByteArray.empty) := HRs.out.cell 3
    have f3 := HRs.out.frozen 3
    clear hb2 h2 h3 h4 HC
    go_wp2
    have hs := Alm.put4 HRs.out (.slice none 0 0) (.int .i64 0) (.int .i64 0) (.string ByteArray.empty)
    have s0 := hs.cell 0
    have s1 := hs.cell 1
    have s2 := hs.cell 2
    have s3 := hs.cell 3
    refine bodyPost_ret (v := .tuple #[.agg #[.slice none 0 0, .int .i64 0, .int .i64 0, .string ByteArray.empty], .bool false]) (by simp [results, Tryz.results40, go_sem, s0, s1, s2, s3]) rfl ?_
    exact ⟨found_no HE.out rfl, Alm.set4 (grow_on HW0.out.1 HB2.out) (Nat.le_refl _) _ _ _ _⟩
  · have HE : Hid (findS S l = some x) := by show _ = _; rw [findS_some hne, HK.out, hFB]
    have HC : Hid (Calls Tryz.prog 13 #[.agg #[.int .i64 (nthT S k).hd, .int .i64 (nthT S k).vr, .slice ad (nthT S k).C.length cp], .slice a' l.length cap'] w1 fun e w' => (∃ M c, e = .returned (.tuple #[.agg #[.slice (some ⟨M, 0, none⟩) x.l.length c, .int .i64 x.s, .int .i64 x.e, .string x.n], .bool true]) ∧ LabR.Own w1 w' M x.l) ∧ Below w1.heap.size w1 w') := specFind_yes _ _ ad a' cp cap' _ l x w1 HA.out (HR.out.2.1.below (grow_on HW0.out.1 HB1.out)) HSm.out.1 HSm.out.2 HR.out.2.2.1 HR.out.2.2.2.1 hFB
    clear hFB
    go_wp2_with fail
    refine HC.out.mono ?_
    rintro e w2 ⟨⟨OM, Oc, rfl, hO⟩, hb2⟩
    have HB2 : Hid (Below W0.heap.size W0 w2) := grow_on HB1.out hb2
    have HO : Hid (LabR.Own w1 w2 OM x.l) := hO
    clear hO
    have HRs : Hid (Blk w2 w.heap.size #[.slice none 0 0, .int .i64 0, .int .i64 0, .string ByteArray.empty] 29) := HW0.out.2.grow HB2.out
    have r0 : w2.cell? ⟨w.heap.size, 0, none⟩ = some (.slice none 0 0) := HRs.out.cell 0
    have f0 := HRs.out.frozen 0
    have r1 : w2.cell? ⟨w.heap.size, 1, none⟩ = some (.int .i64 0) := HRs.out.cell 1
    have f1 := HRs.out.frozen 1
    have r2 : w2.cell? ⟨w.heap.size, 2, none⟩ = some (.int .i64 0) := HRs.out.cell 2
    have f2 := HRs.out.frozen 2
    have r3 : w2.cell? ⟨w.heap.size, 3, none⟩ = some (.string ByteArray.empty) := HRs.out.cell 3
    have f3 := HRs.out.frozen 3
    clear hb2 h2 h3 h4 HC
    go_wp2
    have hs := Alm.put4 HRs.out (.slice (some ⟨OM, 0, none⟩) x.l.length Oc) (.int .i64 x.s) (.int .i64 x.e) (.string x.n)
    have s0 := hs.cell 0
    have s1 := hs.cell 1
    have s2 := hs.cell 2
    have s3 := hs.cell 3
    refine bodyPost_ret (v := .tuple #[.agg #[.slice (some ⟨OM, 0, none⟩) x.l.length Oc, .int .i64 x.s, .int .i64 x.e, .string x.n], .bool true]) (by simp [results, Tryz.results40, go_sem, s0, s1, s2, s3]) rfl ?_
    exact ⟨found_yes HE.out rfl (own4 (own_low HO.out (grow_on HW0.out.1 HB1.out).size) HRs.out _ _ _ _), Alm.set4 (grow_on HW0.out.1 HB2.out) (Nat.le_refl _) _ _ _ _⟩
set_option maxRecDepth 100000 in
set_option maxHeartbeats 3200000 in
theorem implFindA_any (a a' : Option Addr) (cap cap' : Nat) (S : List PPt) (l : List Lab) (w : World) (hr : RdS RdA w a S) (hr' : Reads w a' l) (hl : S.length ≤ 1048576) (hs : sumT S ≤ 1048576) (hll : l.length ≤ maxLen) (hlf : LabT.Fits l) :
    Calls Tryz.prog 31 #[.slice a S.length cap, .slice a' l.length cap'] w fun e w' => PrtF.Found w w' e (findS S l) ∧ Below w.heap.size w w' := by
  have HR : Hid (RdS RdA w a S ∧ Reads w a' l ∧ l.length ≤ maxLen ∧ LabT.Fits l ∧ sumT S ≤ 1048576) := ⟨hr, hr', hll, hlf, hs⟩
  clear hr hr' hs hll hlf
  go_enter Tryz.func31, Tryz.ntmps31
  go_upto_region 1 with fail
  obtain ⟨W0, hW0⟩ : ∃ W0, w.alloc (.cells #[.slice none 0 0, .int .i64 0, .int .i64 0, .string ByteArray.empty] 29) = W0 := ⟨_, rfl⟩
  have HW0 : Hid (Below w.heap.size w W0 ∧ Blk W0 w.heap.size #[.slice none 0 0, .int .i64 0, .int .i64 0, .string ByteArray.empty] 29) := by
    rw [← hW0]
    exact ⟨Go.Joins.below_alloc1 w _, Blk.new _ _ _⟩
  have hW0' : w.alloc (.cells #[.slice none 0 0, .int .i64 0, .int .i64 0, .string ⟨#[]⟩] 29) = W0 := hW0
  first | rw [hW0'] | rw [hW0]
  clear hW0 hW0'
  by_cases hne : S.length = 0
  · have HE : Hid (findS S l = none) := findS_none hne
    have HBr : Hid (Below W0.heap.size W0 W0) := Below.refl _ _
    rw [hne]
    go_wp2_with fail
    refine (homeNone_any a a' cap cap' l W0).mono ?_
    rintro e w1 ⟨rfl, rfl⟩
    have HRs : Hid (Blk w1 w.heap.size #[.slice none 0 0, .int .i64 0, .int .i64 0, .string ByteArray.empty] 29) := HW0.out.2.grow HBr.out
    have r0 : w1.cell? ⟨w.heap.size, 0, none⟩ = some (.slice none 0 0) := HRs.out.cell 0
    have f0 := HRs.out.frozen 0
    have r1 : w1.cell? ⟨w.heap.size, 1, none⟩ = some (.int .i64 0) := HRs.out.cell 1
    have f1 := HRs.out.frozen 1
    have r2 : w1.cell? ⟨w.heap.size, 2, none⟩ = some (.int .i64 0) := HRs.out.cell 2
    have f2 := HRs.out.frozen 2
    have r3 : w1.cell? ⟨w.heap.size, 3, none⟩ = some (.string ByteArray.empty) := HRs.out.cell 3
    have f3 := HRs.out.frozen 3
    go_wp2
    have hs := Alm.put4 HRs.out (.slice none 0 0) (.int .i64 0) (.int .i64 0) (.string ⟨#[]⟩)
    have s0 := hs.cell 0
    have s1 := hs.cell 1
    have s2 := hs.cell 2
    have s3 := hs.cell 3
    refine bodyPost_ret (v := .tuple #[.agg #[.slice none 0 0, .int .i64 0, .int .i64 0, .string ⟨#[]⟩], .bool false]) (by simp [results, Tryz.results31, go_sem, s0, s1, s2, s3]) rfl ?_
    exact ⟨found_no HE.out rfl, Alm.set4 (grow_on HW0.out.1 HBr.out) (Nat.le_refl _) _ _ _ _⟩
  obtain ⟨k, hkk⟩ : ∃ k, homeN S.length l = k := ⟨_, rfl⟩
  have HK : Hid (homeN S.length l = k) := hkk
  have hk : k < S.length := by rw [← hkk]; exact home_lt (by omega)
  have hk' : (k : Int) < (S.length : Int) := by omega
  have hne2 : ((S.length : Int) == 0) = false := by rw [beq_eq_false_iff_ne]; omega
  obtain ⟨b, off, rfl, hb, _⟩ := HR.out.1.get hk
  have HH : Hid (Calls Tryz.prog 98 #[.slice (some ⟨b, off, none⟩) S.length cap, .slice a' l.length cap'] W0 fun e w' => e = .returned (.pointer (some ⟨b, off + k * 3, none⟩)) ∧ Below W0.heap.size W0 w') := by
    rw [← hkk]
    exact homePart_any b off S.length cap cap' a' l W0 (by omega) (HR.out.2.1.below HW0.out.1) (by unfold maxLen; omega) HR.out.2.2.1 HR.out.2.2.2.1
  clear hkk
  go_wp2_with fail
  refine HH.out.mono ?_
  rintro e w1 ⟨rfl, hb1⟩
  have HB1 : Hid (Below W0.heap.size W0 w1) := hb1
  clear hb1 HH
  obtain ⟨b2, off2, ea, hb, ad, cp, hat⟩ := (HR.out.1.below stays_rd (grow_on HW0.out.1 HB1.out)).get hk
  cases ea
  have h2 := hat.c0
  have h3 := hat.c1
  have h4 := hat.c2
  have HA : Hid (RdG RdA w1 ad (nthT S k).C) := hat.reads
  have HSm : Hid ((nthT S k).C.length ≤ 1048576 ∧ PrtO.Small (nthT S k).C) := by have h0 := sumT_nth hk; have h1 := HR.out.2.2.2.2; exact ⟨by omega, small_of (by omega)⟩
  clear hat hb
  rcases hFB : findB (nthT S k).C l with _ | x
  · have HE : Hid (findS S l = none) := by show _ = _; rw [findS_some hne, HK.out, hFB]
    have HC : Hid (Calls Tryz.prog 12 #[.agg #[.int .i64 (nthT S k).hd, .int .i64 (nthT S k).vr, .slice ad (nthT S k).C.length cp], .slice a' l.length cap'] w1 fun e w' => e = .returned (.tuple #[.agg #[.slice none 0 0, .int .i64 0, .int .i64 0, .string ByteArray.empty], .bool false]) ∧ Below w1.heap.size w1 w') := implFind_no _ _ ad a' cp cap' _ l w1 HA.out (HR.out.2.1.below (grow_on HW0.out.1 HB1.out)) HSm.out.1 HSm.out.2 HR.out.2.2.1 HR.out.2.2.2.1 hFB
    clear hFB
    go_wp2_with fail
    refine HC.out.mono ?_
    rintro e w2 ⟨rfl, hb2⟩
    have HB2 : Hid (Below W0.heap.size W0 w2) := grow_on HB1.out hb2
    have HRs : Hid (Blk w2 w.heap.size #[.slice none 0 0, .int .i64 0, .int .i64 0, .string ByteArray.empty] 29) := HW0.out.2.grow HB2.out
    have r0 : w2.cell? ⟨w.heap.size, 0, none⟩ = some (.slice none 0 0) := HRs.out.cell 0
    have f0 := HRs.out.frozen 0
    have r1 : w2.cell? ⟨w.heap.size, 1, none⟩ = some (.int .i64 0) := HRs.out.cell 1
    have f1 := HRs.out.frozen 1
    have r2 : w2.cell? ⟨w.heap.size, 2, none⟩ = some (.int .i64 0) := HRs.out.cell 2
    have f2 := HRs.out.frozen 2
    have r3 : w2.cell? ⟨w.heap.size, 3, none⟩ = some (.string ByteArray.empty) := HRs.out.cell 3
    have f3 := HRs.out.frozen 3
    clear hb2 h2 h3 h4 HC
    go_wp2
    have hs := Alm.put4 HRs.out (.slice none 0 0) (.int .i64 0) (.int .i64 0) (.string ByteArray.empty)
    have s0 := hs.cell 0
    have s1 := hs.cell 1
    have s2 := hs.cell 2
    have s3 := hs.cell 3
    refine bodyPost_ret (v := .tuple #[.agg #[.slice none 0 0, .int .i64 0, .int .i64 0, .string ByteArray.empty], .bool false]) (by simp [results, Tryz.results31, go_sem, s0, s1, s2, s3]) rfl ?_
    exact ⟨found_no HE.out rfl, Alm.set4 (grow_on HW0.out.1 HB2.out) (Nat.le_refl _) _ _ _ _⟩
  · have HE : Hid (findS S l = some x) := by show _ = _; rw [findS_some hne, HK.out, hFB]
    have HC : Hid (Calls Tryz.prog 12 #[.agg #[.int .i64 (nthT S k).hd, .int .i64 (nthT S k).vr, .slice ad (nthT S k).C.length cp], .slice a' l.length cap'] w1 fun e w' => (∃ M c, e = .returned (.tuple #[.agg #[.slice (some ⟨M, 0, none⟩) x.l.length c, .int .i64 x.s, .int .i64 x.e, .string x.n], .bool true]) ∧ LabR.Own w1 w' M x.l) ∧ Below w1.heap.size w1 w') := implFind_yes _ _ ad a' cp cap' _ l x w1 HA.out (HR.out.2.1.below (grow_on HW0.out.1 HB1.out)) HSm.out.1 HSm.out.2 HR.out.2.2.1 HR.out.2.2.2.1 hFB
    clear hFB
    go_wp2_with fail
    refine HC.out.mono ?_
    rintro e w2 ⟨⟨OM, Oc, rfl, hO⟩, hb2⟩
    have HB2 : Hid (Below W0.heap.size W0 w2) := grow_on HB1.out hb2
    have HO : Hid (LabR.Own w1 w2 OM x.l) := hO
    clear hO
    have HRs : Hid (Blk w2 w.heap.size #[.slice none 0 0, .int .i64 0, .int .i64 0, .string ByteArray.empty] 29) := HW0.out.2.grow HB2.out
    have r0 : w2.cell? ⟨w.heap.size, 0, none⟩ = some (.slice none 0 0) := HRs.out.cell 0
    have f0 := HRs.out.frozen 0
    have r1 : w2.cell? ⟨w.heap.size, 1, none⟩ = some (.int .i64 0) := HRs.out.cell 1
    have f1 := HRs.out.frozen 1
    have r2 : w2.cell? ⟨w.heap.size, 2, none⟩ = some (.int .i64 0) := HRs.out.cell 2
    have f2 := HRs.out.frozen 2
    have r3 : w2.cell? ⟨w.heap.size, 3, none⟩ = some (.string ByteArray.empty) := HRs.out.cell 3
    have f3 := HRs.out.frozen 3
    clear hb2 h2 h3 h4 HC
    go_wp2
    have hs := Alm.put4 HRs.out (.slice (some ⟨OM, 0, none⟩) x.l.length Oc) (.int .i64 x.s) (.int .i64 x.e) (.string x.n)
    have s0 := hs.cell 0
    have s1 := hs.cell 1
    have s2 := hs.cell 2
    have s3 := hs.cell 3
    refine bodyPost_ret (v := .tuple #[.agg #[.slice (some ⟨OM, 0, none⟩) x.l.length Oc, .int .i64 x.s, .int .i64 x.e, .string x.n], .bool true]) (by simp [results, Tryz.results31, go_sem, s0, s1, s2, s3]) rfl ?_
    exact ⟨found_yes HE.out rfl (own4 (own_low HO.out (grow_on HW0.out.1 HB1.out).size) HRs.out _ _ _ _), Alm.set4 (grow_on HW0.out.1 HB2.out) (Nat.le_refl _) _ _ _ _⟩
end Go.Proofs.YtooninmicfcfoaaGreat.StsF
