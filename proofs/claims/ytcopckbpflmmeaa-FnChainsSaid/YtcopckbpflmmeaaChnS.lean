/-
  PROVED: over chains in memory spec.InChain, spec.ChainOk, spec.SameChain and impl.SameChain answer as plain functions on lists say; nothing that was there is changed.
-/
import Derived.Test.YtcopckbpflmmeaaChnO
import Derived.Test.YtcopckbpflmmeaaLsS
namespace Go.Proofs.Ytcopckbpflmmeaa.ChnS
open Go.RowKit
open Go.Proofs.Ytcopckbpflmmeaa.Labs Go.Proofs.Ytcopckbpflmmeaa.LabS Go.Proofs.Ytcopckbpflmmeaa.Alms Go.Proofs.Ytcopckbpflmmeaa.AlmS Go.Proofs.Ytcopckbpflmmeaa.Over Go.Proofs.Ytcopckbpflmmeaa.Blk Go.Proofs.Ytcopckbpflmmeaa.Rws Go.Proofs.Ytcopckbpflmmeaa.ChnI Go.Proofs.Ytcopckbpflmmeaa.ChnO
open Go.Proofs.Ytcopckbpflmmeaa.Fing (fingerB)
open Go.Proofs.Ytcopckbpflmmeaa.StrB (retB)
open Go.Proofs.Ytcopckbpflmmeaa.Alm (at_par)
set_option linter.unusedVariables false

set_option maxHeartbeats 1600000 in
theorem specIn_any (f : Int) (a a' : Option Addr) (cap cap' : Nat) (P : List PAl) (q : List Lab) (w : World) (hr : RdA w a P) (hr' : Reads w a' q) (hl : P.length ≤ 1048576) (hs : LenP P) (hq : q.length ≤ maxLen) :
    Calls Try.prog 22 #[.agg #[.int .i64 f, .slice a P.length cap], .slice a' q.length cap'] w fun e w' => e = .returned (.int .i64 (idxB P q)) ∧ Below w.heap.size w w' := by
  have HR : Hid (RdA w a P ∧ Reads w a' q ∧ LenP P ∧ q.length ≤ maxLen) := ⟨hr, hr', hs, hq⟩
  clear hr hr' hs hq
  go_enter Try.func22, Try.ntmps22
  go_wp2
  go_loopw [5] (fun i w' => ∃ k : Nat, i = .int .i64 k ∧ k ≤ P.length ∧ (∀ j, j < k → (nthP P j).l ≠ q) ∧ Below (w.alloc (.cells #[.int .i64 f, .slice a P.length cap] 26)).heap.size (w.alloc (.cells #[.int .i64 f, .slice a P.length cap] 26)) w') (fun i _ => P.length - (intOf i).toNat)
  case atStart => exact ⟨0, rfl, Nat.zero_le _, fun j h => by omega, Below.refl _ _⟩
  case round =>
    obtain ⟨k, rfl, hk, hu, hw⟩ := hrel
    have HU : Hid (∀ j, j < k → (nthP P j).l ≠ q) := hu
    have c1 : wr.cell? ⟨w.heap.size, 1, none⟩ = some (.slice a P.length cap) := at_par hw 1 rfl
    have HB0 : Hid (Below (w.alloc (.cells #[.int .i64 f, .slice a P.length cap] 26)).heap.size (w.alloc (.cells #[.int .i64 f, .slice a P.length cap] 26)) wr) := hw
    have HB : Hid (Below w.heap.size w wr) := grow_on (Go.Joins.below_alloc1 w _) hw
    clear hu hw
    by_cases hlt : k < P.length
    · have hlt' : (k : Int) < (P.length : Int) := by omega
      obtain ⟨b, off, rfl, hb, ad, cp, hat⟩ := (HR.out.1.below HB.out).get hlt
      have h2 := hat.c0
      have HC1 : Hid (Calls Try.prog 61 #[.slice ad (nthP P k).l.length cp, .slice a' q.length cap'] wr fun e w' => e = .returned (.bool (decide ((nthP P k).l = q))) ∧ Below wr.heap.size wr w') := calls_drew (specSame_any _ _ _ _ _ _ wr hat.reads (HR.out.2.1.below HB.out) (HR.out.2.2.1 k hlt) HR.out.2.2.2)
      clear hat
      by_cases he : (nthP P k).l = q
      · have HY : Hid (idxB P q = (k : Int)) := idx_hit HU.out he hlt
        have hd : decide ((nthP P k).l = q) = true := decide_eq_true he
        clear he
        go_wp2_with fail
        refine HC1.out.mono ?_
        rintro e w1 ⟨rfl, hb1⟩
        have HB1 : Hid (Below w.heap.size w w1) := grow_on HB.out hb1
        clear hb1
        go_wp2
        go_ret
        exact ⟨ChnI.retI HY.out.symm, HB1.out⟩
      · have HU1 : Hid (∀ j, j < k + 1 → (nthP P j).l ≠ q) := fun j hj => by
          by_cases e : j = k
          · subst e; exact he
          · exact HU.out j (by omega)
        have hd : decide ((nthP P k).l = q) = false := decide_eq_false he
        clear he
        go_wp2_with fail
        refine HC1.out.mono ?_
        rintro e w1 ⟨rfl, hb1⟩
        have HB1 : Hid (Below (w.alloc (.cells #[.int .i64 f, .slice (some ⟨b, off, none⟩) P.length cap] 26)).heap.size (w.alloc (.cells #[.int .i64 f, .slice (some ⟨b, off, none⟩) P.length cap] 26)) w1) := grow_on HB0.out hb1
        clear hb1 c1 h2
        go_wp2
        go_roundw
        case rel => exact ⟨k + 1, by go_num, by omega, HU1.out, HB1.out⟩
        case measure => simp [intOf]; omega
    · have hge : ¬ (k : Int) < (P.length : Int) := by omega
      have HN : Hid (idxB P q = -1) := idx_miss fun j hj => HU.out j (by omega)
      go_wp2
      go_ret
      exact ⟨ChnI.retI HN.out.symm, HB.out⟩

theorem ok_first {f : Int} {P : List PAl} {i : Nat} (hi : i < P.length) (h1 : alarmB (nthP P i).l (nthP P i).s (nthP P i).e (nthP P i).n = true) (h2 : (fingerB (nthP P i).l : Int) = f) (h3 : ∀ j, j < i → (nthP P j).l ≠ (nthP P i).l) : okC f P i = true := okC_y h1 h2 (idx_hit h3 rfl hi)
theorem ok_again {f : Int} {P : List PAl} {i j : Nat} (hj : j < i) (h : (nthP P j).l = (nthP P i).l) : okC f P i = false := by
  refine okC_3 fun e => ?_
  rcases idx_cases P (nthP P i).l with ⟨q, hm⟩ | ⟨k, q, hk, he, hm⟩
  · rw [q] at e; omega
  · rw [q] at e
    have : k = i := by omega
    subst this
    exact hm j hj h
set_option maxRecDepth 100000 in
set_option maxHeartbeats 4000000 in
theorem specChain_any (f : Int) (a : Option Addr) (cap : Nat) (P : List PAl) (w : World) (hr : RdA w a P) (hl : P.length ≤ 1048576) (hs : FitsP P) :
    Calls Try.prog 18 #[.agg #[.int .i64 f, .slice a P.length cap]] w fun e w' => e = .returned (.bool (chainB f P)) ∧ Below w.heap.size w w' := by
  have HR : Hid (RdA w a P) := hr
  have HF : Hid (FitsP P) := hs
  clear hr hs
  go_enter Try.func18, Try.ntmps18
  go_wp2
  go_loopw [3] (fun i w' => ∃ k : Nat, i = .int .i64 k ∧ k ≤ P.length ∧ (∀ j, j < k → okC f P j = true) ∧ Below (w.alloc (.cells #[.int .i64 f, .slice a P.length cap] 26)).heap.size (w.alloc (.cells #[.int .i64 f, .slice a P.length cap] 26)) w') (fun i _ => P.length - (intOf i).toNat)
  case atStart => exact ⟨0, rfl, Nat.zero_le _, fun j h => by omega, Below.refl _ _⟩
  case round =>
    obtain ⟨k, rfl, hk, hu, hw⟩ := hrel
    have HU : Hid (∀ j, j < k → okC f P j = true) := hu
    have c0 : wr.cell? ⟨w.heap.size, 0, none⟩ = some (.int .i64 f) := at_par hw 0 rfl
    have c1 : wr.cell? ⟨w.heap.size, 1, none⟩ = some (.slice a P.length cap) := at_par hw 1 rfl
    have HB0 : Hid (Below (w.alloc (.cells #[.int .i64 f, .slice a P.length cap] 26)).heap.size (w.alloc (.cells #[.int .i64 f, .slice a P.length cap] 26)) wr) := hw
    have HB : Hid (Below w.heap.size w wr) := grow_on (Go.Joins.below_alloc1 w _) hw
    have hlt0 : w.heap.size < wr.heap.size := by have := hw.size; simp at this; omega
    clear hu hw
    by_cases hlt : k < P.length
    · have hlt' : (k : Int) < (P.length : Int) := by omega
      obtain ⟨b, off, rfl, hb, ad, cp, hat⟩ := (HR.out.below HB.out).get hlt
      have hne := Grown.some wr
      have x0 : ∀ q : Grown wr, q.out.cell? ⟨b, off + k * 4, none⟩ = some (.slice ad (nthP P k).l.length cp) := fun q => q.cell hb hat.c0
      have x1 : ∀ q : Grown wr, q.out.cell? ⟨b, off + k * 4 + 1, none⟩ = some (.int .i64 (nthP P k).s) := fun q => q.cell hb hat.c1
      have x2 : ∀ q : Grown wr, q.out.cell? ⟨b, off + k * 4 + 2, none⟩ = some (.int .i64 (nthP P k).e) := fun q => q.cell hb hat.c2
      have x3 : ∀ q : Grown wr, q.out.cell? ⟨b, off + k * 4 + 3, none⟩ = some (.string (nthP P k).n) := fun q => q.cell hb hat.c3
      have y0 : ∀ q : Grown wr, q.out.cell? ⟨w.heap.size, 0, none⟩ = some (.int .i64 f) := fun q => q.cell hlt0 c0
      have y1 : ∀ q : Grown wr, q.out.cell? ⟨w.heap.size, 1, none⟩ = some (.slice (some ⟨b, off, none⟩) P.length cap) := fun q => q.cell hlt0 c1
      have HC1 : ∀ q : Grown wr, Hid (Calls Try.prog 59 #[.agg #[.slice ad (nthP P k).l.length cp, .int .i64 (nthP P k).s, .int .i64 (nthP P k).e, .string (nthP P k).n]] q.out fun e w' => e = .returned (.bool (alarmB (nthP P k).l (nthP P k).s (nthP P k).e (nthP P k).n)) ∧ Below q.out.heap.size q.out w') := fun q => specAlarm_any _ _ _ _ _ _ _ ((HF.out k hlt).al (hat.reads.below q.bel))
      have HC2 : ∀ q : Grown wr, Hid (Calls Try.prog 60 #[.slice ad (nthP P k).l.length cp] q.out fun e w' => e = .returned (.int .i64 (fingerB (nthP P k).l)) ∧ Below q.out.heap.size q.out w') := fun q => Fing.specFinger_any _ _ _ _ (hat.reads.below q.bel) (HF.out k hlt).len (HF.out k hlt).fits
      clear hat c0
      cases hA : alarmB (nthP P k).l (nthP P k).s (nthP P k).e (nthP P k).n with
      | false =>
        have HE : Hid (chainB f P = false) := chain_bad hlt (okC_1 hA)
        rw [hA] at HC1
        clear hA
        go_wp2
        refine wp_over (z := wr) (by kernel_rfl) (by kernel_rfl) (Below.refl _ _) ?_
        repeat (go_big_quiet_step (first | (go_at_call 59; exact call_over (HC1 _).out) | (go_at_call 60; exact call_over (HC2 _).out)))
        refine wpQuiet_nil ?_
        intro w2 hw2
        have hb2 := over_bel hw2
        have HB2 : Hid (Below wr.heap.size wr w2) := hb2
        clear hw2 hne HC1 HC2 x0 x1 x2 x3 y0 y1
        clear hb2
        go_wp2
        go_ret
        exact ⟨retB HE.out.symm, grow_on HB.out HB2.out⟩
      | true =>
        rw [hA] at HC1
        by_cases hF : (fingerB (nthP P k).l : Int) = f
        · have HA2 : Hid (alarmB (nthP P k).l (nthP P k).s (nthP P k).e (nthP P k).n = true ∧ (fingerB (nthP P k).l : Int) = f) := ⟨hA, hF⟩
          clear hA
          go_wp2
          refine wp_over (z := wr) (by kernel_rfl) (by kernel_rfl) (Below.refl _ _) ?_
          repeat (go_big_quiet_step (first | (go_at_call 59; exact call_over (HC1 _).out) | (go_at_call 60; exact call_over (HC2 _).out)))
          refine wpQuiet_nil ?_
          intro w2 hw2
          have hb2 := over_bel hw2
          have HB2 : Hid (Below wr.heap.size wr w2) := hb2
          clear hw2 hne HC1 HC2 x0 x1 x2 x3 y0 y1
          have HW : Hid (Below (w.alloc (.cells #[.int .i64 f, .slice (some ⟨b, off, none⟩) P.length cap] 26)).heap.size (w.alloc (.cells #[.int .i64 f, .slice (some ⟨b, off, none⟩) P.length cap] 26)) w2) := grow_on HB0.out hb2
          clear hb2 c1 hF HB0 HB HB2
          go_wp2
          go_loopw [4] (fun i w' => ∃ m : Nat, i = .int .i64 m ∧ m ≤ k ∧ (∀ j, j < m → (nthP P j).l ≠ (nthP P k).l) ∧ Below (w.alloc (.cells #[.int .i64 f, .slice (some ⟨b, off, none⟩) P.length cap] 26)).heap.size (w.alloc (.cells #[.int .i64 f, .slice (some ⟨b, off, none⟩) P.length cap] 26)) w') (fun i _ => k - (intOf i).toNat)
          case atStart => exact ⟨0, rfl, Nat.zero_le _, fun j h => by omega, HW.out⟩
          case round =>
            obtain ⟨m, rfl, hm, hv, hw⟩ := hrel
            have HV : Hid (∀ j, j < m → (nthP P j).l ≠ (nthP P k).l) := hv
            have c1 : wr.cell? ⟨w.heap.size, 1, none⟩ = some (.slice (some ⟨b, off, none⟩) P.length cap) := at_par hw 1 rfl
            have HB0 : Hid (Below (w.alloc (.cells #[.int .i64 f, .slice (some ⟨b, off, none⟩) P.length cap] 26)).heap.size (w.alloc (.cells #[.int .i64 f, .slice (some ⟨b, off, none⟩) P.length cap] 26)) wr) := hw
            have HB : Hid (Below w.heap.size w wr) := grow_on (Go.Joins.below_alloc1 w _) hw
            have hlt1 : w.heap.size < wr.heap.size := by have := hw.size; simp at this; omega
            clear hv hw
            by_cases hmk : m < k
            · have hmk' : (m : Int) < (k : Int) := by omega
              have hml : (m : Int) < (P.length : Int) := by omega
              have hmP : m < P.length := by omega
              obtain ⟨b1, off1, e1, hb1, ad1, cp1, hat1⟩ := (HR.out.below HB.out).get hmP
              obtain ⟨b2, off2, e2, hb2, ad2, cp2, hat2⟩ := (HR.out.below HB.out).get hlt
              cases e1
              cases e2
              have hne := Grown.some wr
              have x0 : ∀ q : Grown wr, q.out.cell? ⟨b, off + m * 4, none⟩ = some (.slice ad1 (nthP P m).l.length cp1) := fun q => q.cell hb1 hat1.c0
              have x1 : ∀ q : Grown wr, q.out.cell? ⟨b, off + k * 4, none⟩ = some (.slice ad2 (nthP P k).l.length cp2) := fun q => q.cell hb2 hat2.c0
              have y1 : ∀ q : Grown wr, q.out.cell? ⟨w.heap.size, 1, none⟩ = some (.slice (some ⟨b, off, none⟩) P.length cap) := fun q => q.cell hlt1 c1
              have HC1 : ∀ q : Grown wr, Hid (Calls Try.prog 61 #[.slice ad1 (nthP P m).l.length cp1, .slice ad2 (nthP P k).l.length cp2] q.out fun e w' => e = .returned (.bool (decide ((nthP P m).l = (nthP P k).l))) ∧ Below q.out.heap.size q.out w') := fun q => calls_drew (specSame_any _ _ _ _ _ _ _ (hat1.reads.below q.bel) (hat2.reads.below q.bel) (HF.out m hmP).len (HF.out k hlt).len)
              clear hat1 hat2
              by_cases he : (nthP P m).l = (nthP P k).l
              · have hd : decide ((nthP P m).l = (nthP P k).l) = true := decide_eq_true he
                have HE : Hid (chainB f P = false) := chain_bad hlt (ok_again hmk he)
                rw [hd] at HC1
                clear hd he
                go_wp2
                refine wp_over (z := wr) (by kernel_rfl) (by kernel_rfl) (Below.refl _ _) ?_
                repeat (go_big_quiet_step (first | (go_at_call 61; exact call_over (HC1 _).out)))
                refine wpQuiet_nil ?_
                intro w3 hw3
                have HB3 : Hid (Below w.heap.size w w3) := grow_on HB.out (over_bel hw3)
                clear hw3 hne HC1 x0 x1 y1 c1
                go_wp2
                go_ret
                exact ⟨retB HE.out.symm, HB3.out⟩
              · have hd : decide ((nthP P m).l = (nthP P k).l) = false := decide_eq_false he
                have HV1 : Hid (∀ j, j < m + 1 → (nthP P j).l ≠ (nthP P k).l) := fun j hj => by
                  by_cases e : j = m
                  · subst e; exact he
                  · exact HV.out j (by omega)
                rw [hd] at HC1
                clear hd he
                go_wp2
                refine wp_over (z := wr) (by kernel_rfl) (by kernel_rfl) (Below.refl _ _) ?_
                repeat (go_big_quiet_step (first | (go_at_call 61; exact call_over (HC1 _).out)))
                refine wpQuiet_nil ?_
                intro w3 hw3
                have HB3 : Hid (Below (w.alloc (.cells #[.int .i64 f, .slice (some ⟨b, off, none⟩) P.length cap] 26)).heap.size (w.alloc (.cells #[.int .i64 f, .slice (some ⟨b, off, none⟩) P.length cap] 26)) w3) := grow_on HB0.out (over_bel hw3)
                clear hw3 hne HC1 x0 x1 y1 c1
                go_wp2
                go_roundw
                case rel => exact ⟨m + 1, by go_num, by omega, HV1.out, HB3.out⟩
                case measure => simp [intOf]; omega
            · have hge : ¬ (m : Int) < (k : Int) := by omega
              have HU1 : Hid (∀ j, j < k + 1 → okC f P j = true) := fun j hj => by
                by_cases e : j = k
                · subst e; exact ok_first hlt HA2.out.1 HA2.out.2 (fun i hi => HV.out i (by omega))
                · exact HU.out j (by omega)
              clear c1
              go_wp2
              go_roundw
              case rel => exact ⟨k + 1, by go_num, by omega, HU1.out, HB0.out⟩
              case measure => simp [intOf]; omega
        · have hF1 : ((fingerB (nthP P k).l : Int) != f) = true := bne_iff_ne.2 hF
          have HE : Hid (chainB f P = false) := chain_bad hlt (okC_2 hF)
          clear hA
          go_wp2
          refine wp_over (z := wr) (by kernel_rfl) (by kernel_rfl) (Below.refl _ _) ?_
          repeat (go_big_quiet_step (first | (go_at_call 59; exact call_over (HC1 _).out) | (go_at_call 60; exact call_over (HC2 _).out)))
          refine wpQuiet_nil ?_
          intro w2 hw2
          have hb2 := over_bel hw2
          have HB2 : Hid (Below wr.heap.size wr w2) := hb2
          clear hw2 hne HC1 HC2 x0 x1 x2 x3 y0 y1
          clear hb2
          go_wp2
          go_ret
          exact ⟨retB HE.out.symm, grow_on HB.out HB2.out⟩
    · have hge : ¬ (k : Int) < (P.length : Int) := by omega
      have HN : Hid (chainB f P = decide (0 < P.length)) := chain_good fun j hj => HU.out j (by omega)
      go_wp2
      go_ret
      exact ⟨retB HN.out.symm, HB.out⟩

end Go.Proofs.Ytcopckbpflmmeaa.ChnS
