/-
  PROVED: over a part in memory impl.FindIn gives a copy of the first alarm of the labels in the first chain of their number, as a plain function on lists of chains says; nothing that was there is changed.
-/
import Derived.Test.YtdbmpaocfmhlhaaPrtF
import Derived.Test.YtdbmpaocfmhlhaaPrtH
namespace Go.Proofs.Ytdbmpaocfmhlhaa.PrtI
open Go.RowKit
open Go.Proofs.Ytdbmpaocfmhlhaa.Labs Go.Proofs.Ytdbmpaocfmhlhaa.LabS Go.Proofs.Ytdbmpaocfmhlhaa.Alms Go.Proofs.Ytdbmpaocfmhlhaa.AlmS Go.Proofs.Ytdbmpaocfmhlhaa.AlmM Go.Proofs.Ytdbmpaocfmhlhaa.Over Go.Proofs.Ytdbmpaocfmhlhaa.Blk Go.Proofs.Ytdbmpaocfmhlhaa.App Go.Proofs.Ytdbmpaocfmhlhaa.Rws Go.Proofs.Ytdbmpaocfmhlhaa.ChnI Go.Proofs.Ytdbmpaocfmhlhaa.ChnC Go.Proofs.Ytdbmpaocfmhlhaa.ChnP Go.Proofs.Ytdbmpaocfmhlhaa.ChnS Go.Proofs.Ytdbmpaocfmhlhaa.ChnK Go.Proofs.Ytdbmpaocfmhlhaa.Chs Go.Proofs.Ytdbmpaocfmhlhaa.Prt Go.Proofs.Ytdbmpaocfmhlhaa.PrtO Go.Proofs.Ytdbmpaocfmhlhaa.PrtF Go.Proofs.Ytdbmpaocfmhlhaa.PrtH Go.Proofs.Ytdbmpaocfmhlhaa.Mps
open Go.Proofs.Ytdbmpaocfmhlhaa.Fing (fingerB)
set_option linter.unusedVariables false

theorem cntF_zero {C : List PCh} {f : Int} : ∀ {k : Nat}, (∀ j, j < k → (nthC C j).f ≠ f) → cntF C f k = 0
  | 0, _ => rfl
  | k + 1, h => by rw [cntF, cntF_zero (fun j hj => h j (by omega)), if_neg (h k (by omega))]
theorem shG_first {C : List PCh} {val : Nat → Value} {f : Int} {k : Nat} (hk : k < C.length) (hf : (nthC C k).f = f) (h : ∀ j, j < k → (nthC C j).f ≠ f) : shG C val C.length (f, 0) = some (val k) := by
  have e : keyC C k = (f, 0) := by unfold keyC; rw [hf, cntF_zero h]; rfl
  rw [← e]; exact shG_at hk
theorem shG_miss {C : List PCh} {val : Nat → Value} {f z : Int} (h : ∀ j, j < C.length → (nthC C j).f ≠ f) : shG C val C.length (f, z) = none :=
  shG_no fun i hi e => h i hi (congrArg Prod.fst e).symm
theorem fieldM (f : Option Nat) (a : Option Addr) (n c : Nat) (w : World) : (Instr.field 82 (.agg #[.map f, .slice a n c]) 0).run Try.prog w = .ok (.map f) w := by kernel_rfl
set_option maxRecDepth 100000 in
set_option maxHeartbeats 1600000 in
theorem implFind_any (hd vr : Int) (a a' : Option Addr) (cap cap' : Nat) (C : List PCh) (l : List Lab) (w : World) (hr : RdG RdA w a C) (hr' : Reads w a' l) (hl : C.length ≤ 1048576) (hs : Small C) (hll : l.length ≤ maxLen) (hlf : LabT.Fits l) :
    Calls Try.prog 18 #[.agg #[.int .i64 hd, .int .i64 vr, .slice a C.length cap], .slice a' l.length cap'] w fun e w' => PrtF.Found w w' e (findB C l) ∧ Below w.heap.size w w' := by
  have HR : Hid (RdG RdA w a C ∧ Reads w a' l ∧ Small C ∧ l.length ≤ maxLen ∧ LabT.Fits l) := ⟨hr, hr', hs, hll, hlf⟩
  clear hr hr' hs hll hlf
  go_enter Try.func18, Try.ntmps18
  go_wp2_with fail
  obtain ⟨W0, hW0⟩ : ∃ W0, (w.alloc (.cells #[.int .i64 hd, .int .i64 vr, .slice a C.length cap] 29)).alloc (.cells #[.slice none 0 0, .int .i64 0, .int .i64 0, .string ByteArray.empty] 38) = W0 := ⟨_, rfl⟩
  have HW0 : Hid (Below w.heap.size w W0 ∧ Blk W0 w.heap.size #[.int .i64 hd, .int .i64 vr, .slice a C.length cap] 29 ∧ Blk W0 (w.heap.size + 1) #[.slice none 0 0, .int .i64 0, .int .i64 0, .string ByteArray.empty] 38) := by
    rw [← hW0]
    exact ⟨Go.Joins.below_alloc2 w _ _, (Blk.new _ _ _).alloc _, Blk.new_at (by simp)⟩
  have hW0' : (w.alloc (.cells #[.int .i64 hd, .int .i64 vr, .slice a C.length cap] 29)).alloc (.cells #[.slice none 0 0, .int .i64 0, .int .i64 0, .string ⟨#[]⟩] 38) = W0 := hW0
  first | rw [hW0'] | rw [hW0]
  clear hW0 hW0'
  refine (shelve_any a cap C W0 (HR.out.1.below stays_rd HW0.out.1) hl).mono ?_
  rintro e w2 ⟨⟨Mm, Ms, rfl, ad, cp, hsh⟩, hb2⟩
  have HSH : Hid (Shelved W0.heap.size W0 w2 C ad cp Mm Ms) := hsh
  have HB2 : Hid (Below W0.heap.size W0 w2) := hb2
  have hfd := fieldM
  clear hsh hb2
  go_wp2_with fail
  refine (Fing.implFinger_any a' cap' l w2 (HR.out.2.1.below (grow_on HW0.out.1 HB2.out)) HR.out.2.2.2.1 HR.out.2.2.2.2).mono ?_
  rintro e w3 ⟨rfl, hb3⟩
  have HB3 : Hid (Below W0.heap.size W0 w3) := grow_on HB2.out hb3
  have HM3 : Hid (MapG TwoK w3 Mm (shG C (fun i => chV (nthC C i) (ad i) (cp i)) C.length)) := HSH.out.map.grow hb3
  clear hb3 hfd
  rcases at_cases C (fingerB l) with ⟨h0, h1, h2⟩ | ⟨k, h0, h1, hk, h3, h4⟩
  · have HE : Hid (findB C l = none) := find_1 h0
    have HLk : Hid ((shG C (fun i => chV (nthC C i) (ad i) (cp i)) C.length ((fingerB l : Int), 0)).getD (.agg #[.int .i64 0, .slice none 0 0]) = .agg #[.int .i64 0, .slice none 0 0]) := by show Option.getD _ _ = _; rw [shG_miss h2]; rfl
    clear h0 h1 h2
    go_wp2_with (at_lookup; refine wp_lookup _ rfl _ _ 79 false rfl 85 64 TwoK asked_slot Try.underlying79 (zeroC _) Mm (shG C (fun i => chV (nthC C i) (ad i) (cp i)) C.length) rfl HM3.out ((fingerB l : Int), 0) rfl (.agg #[.int .i64 0, .slice none 0 0]) HLk.out ?_)
    go_wp2_with fail
    refine (implIn_any 0 none a' 0 cap' [] l _ (.inl rfl) ((HR.out.2.1.below (grow_on HW0.out.1 HB3.out)).below (Go.Joins.below_alloc1 w3 _)) (by simp) (fun i hi => by simp at hi) HR.out.2.2.2.1).mono ?_
    rintro e w4 ⟨rfl, hb4⟩
    have HB4 : Hid (Below W0.heap.size W0 w4) := grow_on (grow_on HB3.out (Go.Joins.below_alloc1 w3 _)) hb4
    have hi1 : idxB [] l = -1 := idx_miss (fun j hj => by simp at hj)
    rw [hi1]
    clear hb4 hi1
    have HRs : Hid (Blk w4 (w.heap.size + 1) #[.slice none 0 0, .int .i64 0, .int .i64 0, .string ByteArray.empty] 38) := HW0.out.2.2.grow HB4.out
    have r0 : w4.cell? ⟨w.heap.size + 1, 0, none⟩ = some (.slice none 0 0) := HRs.out.cell 0
    have r1 : w4.cell? ⟨w.heap.size + 1, 1, none⟩ = some (.int .i64 0) := HRs.out.cell 1
    have r2 : w4.cell? ⟨w.heap.size + 1, 2, none⟩ = some (.int .i64 0) := HRs.out.cell 2
    have r3 : w4.cell? ⟨w.heap.size + 1, 3, none⟩ = some (.string ByteArray.empty) := HRs.out.cell 3
    have f0 := HRs.out.frozen 0
    have f1 := HRs.out.frozen 1
    have f2 := HRs.out.frozen 2
    have f3 := HRs.out.frozen 3
    go_wp2
    have hs := Alm.put4 HRs.out (.slice none 0 0) (.int .i64 0) (.int .i64 0) (.string ⟨#[]⟩)
    have s0 := hs.cell 0
    have s1 := hs.cell 1
    have s2 := hs.cell 2
    have s3 := hs.cell 3
    refine bodyPost_ret (v := .tuple #[.agg #[.slice none 0 0, .int .i64 0, .int .i64 0, .string ⟨#[]⟩], .bool false]) (by simp [results, Try.results18, go_sem, s0, s1, s2, s3]) rfl ?_
    rw [HE.out]
    exact ⟨rfl, Alm.set4 (grow_on HW0.out.1 HB4.out) (by omega) _ _ _ _⟩
  · have HK : Hid (atO C (fingerB l) = some k) := h0
    have HLk : Hid ((shG C (fun i => chV (nthC C i) (ad i) (cp i)) C.length ((fingerB l : Int), 0)).getD (.agg #[.int .i64 0, .slice none 0 0]) = .agg #[.int .i64 (nthC C k).f, .slice (ad k) (nthC C k).P.length (cp k)]) := by show Option.getD _ _ = _; rw [shG_first hk h3 h4]; rfl
    clear h0 h1 h3 h4
    go_wp2_with (at_lookup; refine wp_lookup _ rfl _ _ 79 false rfl 85 64 TwoK asked_slot Try.underlying79 (zeroC _) Mm (shG C (fun i => chV (nthC C i) (ad i) (cp i)) C.length) rfl HM3.out ((fingerB l : Int), 0) rfl (.agg #[.int .i64 (nthC C k).f, .slice (ad k) (nthC C k).P.length (cp k)]) HLk.out ?_)
    have HS : Hid ((nthC C k).P.length ≤ 1048576 ∧ LenM (nthC C k).P) := HR.out.2.2.1 _ (nthC_mem hk)
    have HRD : Hid (RdA w3 (ad k) (nthC C k).P) := (HSH.out.reads k hk).below HB3.out
    go_wp2_with fail
    obtain ⟨W4, hW4⟩ : ∃ W4, w3.alloc (.cells #[.int .i64 (nthC C k).f, .slice (ad k) (nthC C k).P.length (cp k)] 64) = W4 := ⟨_, rfl⟩
    have H4 : Hid (Below w3.heap.size w3 W4 ∧ Blk W4 w3.heap.size #[.int .i64 (nthC C k).f, .slice (ad k) (nthC C k).P.length (cp k)] 64) := by
      rw [← hW4]
      exact ⟨Go.Joins.below_alloc1 w3 _, Blk.new _ _ _⟩
    try rw [hW4]
    clear hW4
    refine (implIn_any _ (ad k) a' (cp k) cap' (nthC C k).P l W4 (HRD.out.below H4.out.1) ((HR.out.2.1.below (grow_on HW0.out.1 HB3.out)).below H4.out.1) HS.out.1 (len_m HS.out.2) HR.out.2.2.2.1).mono ?_
    rintro e w5 ⟨rfl, hb5⟩
    have HB5 : Hid (Below W0.heap.size W0 w5) := grow_on (grow_on HB3.out H4.out.1) hb5
    have HK5 : Hid (Blk w5 w3.heap.size #[.int .i64 (nthC C k).f, .slice (ad k) (nthC C k).P.length (cp k)] 64) := H4.out.2.grow hb5
    have HRD5 : Hid (RdA w5 (ad k) (nthC C k).P) := (HRD.out.below H4.out.1).below hb5
    clear hb5
    rcases idx_cases (nthC C k).P l with ⟨i1, i2⟩ | ⟨i, i1, hi, i3, i4⟩
    · have HE : Hid (findB C l = none) := find_2 HK.out i2
      rw [i1]
      clear i1 i2
      have HRs : Hid (Blk w5 (w.heap.size + 1) #[.slice none 0 0, .int .i64 0, .int .i64 0, .string ByteArray.empty] 38) := HW0.out.2.2.grow HB5.out
      have r0 : w5.cell? ⟨w.heap.size + 1, 0, none⟩ = some (.slice none 0 0) := HRs.out.cell 0
      have r1 : w5.cell? ⟨w.heap.size + 1, 1, none⟩ = some (.int .i64 0) := HRs.out.cell 1
      have r2 : w5.cell? ⟨w.heap.size + 1, 2, none⟩ = some (.int .i64 0) := HRs.out.cell 2
      have r3 : w5.cell? ⟨w.heap.size + 1, 3, none⟩ = some (.string ByteArray.empty) := HRs.out.cell 3
      have f0 := HRs.out.frozen 0
      have f1 := HRs.out.frozen 1
      have f2 := HRs.out.frozen 2
      have f3 := HRs.out.frozen 3
      go_wp2
      have hs := Alm.put4 HRs.out (.slice none 0 0) (.int .i64 0) (.int .i64 0) (.string ⟨#[]⟩)
      have s0 := hs.cell 0
      have s1 := hs.cell 1
      have s2 := hs.cell 2
      have s3 := hs.cell 3
      refine bodyPost_ret (v := .tuple #[.agg #[.slice none 0 0, .int .i64 0, .int .i64 0, .string ⟨#[]⟩], .bool false]) (by simp [results, Try.results18, go_sem, s0, s1, s2, s3]) rfl ?_
      rw [HE.out]
      exact ⟨rfl, Alm.set4 (grow_on HW0.out.1 HB5.out) (by omega) _ _ _ _⟩
    · have HE : Hid (findB C l = some (nthP (nthC C k).P i)) := find_3 HK.out i4 i3 hi
      rw [i1]
      have hi' : (i : Int) < ((nthC C k).P.length : Int) := by omega
      have q1 : w5.cell? ⟨w3.heap.size, 1, none⟩ = some (.slice (ad k) (nthC C k).P.length (cp k)) := HK5.out.cell 1
      obtain ⟨b1, off1, ea, hb1, g, cp1, hat⟩ := HRD5.out.get hi
      rw [ea] at q1 ⊢
      have u0 := hat.c0
      have u1 := hat.c1
      have u2 := hat.c2
      have u3 := hat.c3
      have HRL : Hid (Reads w5 g (nthP (nthC C k).P i).l) := hat.reads
      clear hat hb1 i1 i3 i4
      go_wp2_with fail
      refine (copyI_any g cp1 _ _ _ _ w5 HRL.out (HS.out.2 i hi)).mono ?_
      rintro e w6 ⟨⟨M, c, rfl, hO⟩, hb6⟩
      have HB6 : Hid (Below W0.heap.size W0 w6) := grow_on HB5.out hb6
      have HO : Hid (LabR.Own w w6 M (nthP (nthC C k).P i).l) := ⟨Nat.le_trans (grow_on HW0.out.1 HB5.out).size hO.1, hO.2⟩
      have HML : Hid (W0.heap.size ≤ M) := Nat.le_trans HB5.out.size hO.1
      clear hb6 hO q1 u0 u1 u2 u3
      have HRs : Hid (Blk w6 (w.heap.size + 1) #[.slice none 0 0, .int .i64 0, .int .i64 0, .string ByteArray.empty] 38) := HW0.out.2.2.grow HB6.out
      have r0 : w6.cell? ⟨w.heap.size + 1, 0, none⟩ = some (.slice none 0 0) := HRs.out.cell 0
      have r1 : w6.cell? ⟨w.heap.size + 1, 1, none⟩ = some (.int .i64 0) := HRs.out.cell 1
      have r2 : w6.cell? ⟨w.heap.size + 1, 2, none⟩ = some (.int .i64 0) := HRs.out.cell 2
      have r3 : w6.cell? ⟨w.heap.size + 1, 3, none⟩ = some (.string ByteArray.empty) := HRs.out.cell 3
      have f0 := HRs.out.frozen 0
      have f1 := HRs.out.frozen 1
      have f2 := HRs.out.frozen 2
      have f3 := HRs.out.frozen 3
      go_wp2
      have hs := Alm.put4 HRs.out (.slice (some ⟨M, 0, none⟩) (nthP (nthC C k).P i).l.length c) (.int .i64 (nthP (nthC C k).P i).s) (.int .i64 (nthP (nthC C k).P i).e) (.string (nthP (nthC C k).P i).n)
      have s0 := hs.cell 0
      have s1 := hs.cell 1
      have s2 := hs.cell 2
      have s3 := hs.cell 3
      refine bodyPost_ret (v := .tuple #[.agg #[.slice (some ⟨M, 0, none⟩) (nthP (nthC C k).P i).l.length c, .int .i64 (nthP (nthC C k).P i).s, .int .i64 (nthP (nthC C k).P i).e, .string (nthP (nthC C k).P i).n], .bool true]) (by simp [results, Try.results18, go_sem, s0, s1, s2, s3]) rfl ?_
      rw [HE.out]
      obtain ⟨q1, ds, q2, q3⟩ := HO.out
      exact ⟨⟨M, _, rfl, q1, ds, Alm.blk4 q2 (by have := HML.out; have := HW0.out.2.2.lt; omega) _ _ _ _, q3⟩, Alm.set4 (grow_on HW0.out.1 HB6.out) (by omega) _ _ _ _⟩
end Go.Proofs.Ytdbmpaocfmhlhaa.PrtI
