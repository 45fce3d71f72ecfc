/-
  PROVED: impl.HeapOk answers as the plain function on lists says; nothing that was there is changed.
-/
import Derived.Test.YtcjhieknmblbbaaHpJ
namespace Go.Proofs.Ytcjhieknmblbbaa.HpN
open Go.RowKit
open Go.Proofs.Ytcjhieknmblbbaa.Hp Go.Proofs.Ytcjhieknmblbbaa.Tms Go.Proofs.Ytcjhieknmblbbaa.TmO Go.Proofs.Ytcjhieknmblbbaa.TmR Go.Proofs.Ytcjhieknmblbbaa.HpJ Go.Proofs.Ytcjhieknmblbbaa.Over Go.Proofs.Ytcjhieknmblbbaa.Blk
set_option linter.unusedVariables false
theorem ok_eq (l : List Tm) (k : Nat) : okAt l k = (decide (0 ≤ (nthT l k).1) && decide (0 ≤ (nthT l k).2) && !befB (nthT l k) (nthT l (par k))) := by
  unfold okAt
  by_cases h : k = 0
  · subst h
    have : par 0 = 0 := rfl
    rw [this, bef_irr]; simp
  · rw [decide_eq_false h, Bool.false_or]
set_option maxHeartbeats 1600000 in
theorem implHeapOk_any (a : Option Addr) (cap : Nat) (l : List Tm) (w : World) (hr : RdT w a l) (hl : l.length ≤ maxLen) :
    Calls Try.prog 15 #[.slice a l.length cap] w fun e w' => e = .returned (.bool (heapOkB l)) ∧ Below w.heap.size w w' := by
  unfold maxLen at hl
  have HR : Hid (RdT w a l) := hr
  clear hr
  by_cases h16 : 16 < l.length
  · have h16' : (16 : Int) < (l.length : Int) := by omega
    have HN : Hid (heapOkB l = false) := by unfold Hid heapOkB; rw [decide_eq_false (p := l.length ≤ 16) (by omega), Bool.and_false]
    go_enter Try.func15, Try.ntmps15
    go_wp2
    go_ret
    exact ⟨retB HN.out.symm, Below.refl _ _⟩
  have h16' : ¬ (16 : Int) < (l.length : Int) := by omega
  go_enter Try.func15, Try.ntmps15
  go_wp2
  go_loopw [10] (fun i w' => ∃ k : Nat, i = .int .i64 k ∧ k ≤ l.length ∧ (∀ j, j < k → okAt l j = true) ∧ Below w.heap.size w w') (fun i _ => l.length - (intOf i).toNat)
  case atStart => exact ⟨0, rfl, Nat.zero_le _, fun j h => by omega, Below.refl _ _⟩
  case round =>
    obtain ⟨k, rfl, hk, hu, hw0⟩ := hrel
    have HU : Hid (∀ j, j < k → okAt l j = true) := hu
    have HB : Hid (Below w.heap.size w wr) := hw0
    have HR1 : Hid (RdT wr a l) := HR.out.below hw0
    clear hw0 hu
    by_cases hlt : k < l.length
    · have hlt' : (k : Int) < (l.length : Int) := by omega
      obtain ⟨b, off, rfl, hb, hc⟩ := HR1.out.get hlt
      obtain ⟨h0, h1⟩ := hc k hlt
      have HX : Hid (∀ i, i < l.length → wr.cell? ⟨b, off + i * 2, none⟩ = some (.int .i64 (nthT l i).1) ∧ wr.cell? ⟨b, off + i * 2 + 1, none⟩ = some (.int .i64 (nthT l i).2)) := hc
      clear hc
      go_upto_region 6 with fail
      generalize hW : wr.alloc (.cells #[.int .i64 (nthT l k).1, .int .i64 (nthT l k).2] 26) = W2
      have HB1 : Hid (Below wr.heap.size wr W2) := by rw [← hW]; exact Go.Joins.below_alloc1 wr _
      have HY : Hid (Blk W2 wr.heap.size #[.int .i64 (nthT l k).1, .int .i64 (nthT l k).2] 26) := by rw [← hW]; exact Blk.new _ _ _
      have HB2 : Hid (Below w.heap.size w W2) := grow_on HB.out HB1.out
      clear hW
      have hne := Grown.some W2
      have hYl := HY.out.lt
      have x0 := fun x : Grown W2 => x.cell (p := ⟨wr.heap.size, 0, none⟩) hYl (HY.out.cell 0)
      have x1 := fun x : Grown W2 => x.cell (p := ⟨wr.heap.size, 1, none⟩) hYl (HY.out.cell 1)
      by_cases c0 : (nthT l k).1 < 0
      · have b0 : decide ((nthT l k).1 < 0) = true := decide_eq_true c0
        have HN : Hid (heapOkB l = false) := by
          unfold Hid heapOkB
          rw [heapB_no hlt (by unfold okAt; rw [decide_eq_false (by omega)]; rfl)]; rfl
        clear h0 h1
        go_wp2_with fail
        refine wp_over (z := W2) (by kernel_rfl) (by kernel_rfl) (Below.refl _ _) ?_
        repeat (go_big_quiet_step (fail))
        refine wpQuiet_nil ?_
        intro w2 hw2
        have hb2 := over_bel hw2
        clear hw2 hne
        go_wp2
        go_ret
        exact ⟨retB HN.out.symm, grow_on HB2.out hb2⟩
      · have b0 : decide ((nthT l k).1 < 0) = false := decide_eq_false c0
        by_cases c1 : (nthT l k).2 < 0
        · have b1 : decide ((nthT l k).2 < 0) = true := decide_eq_true c1
          have HN : Hid (heapOkB l = false) := by
            unfold Hid heapOkB
            rw [heapB_no hlt (by unfold okAt; rw [decide_eq_false (p := 0 ≤ (nthT l k).2) (by omega), Bool.and_false]; rfl)]; rfl
          clear h0 h1
          go_wp2_with fail
          refine wp_over (z := W2) (by kernel_rfl) (by kernel_rfl) (Below.refl _ _) ?_
          repeat (go_big_quiet_step (fail))
          refine wpQuiet_nil ?_
          intro w2 hw2
          have hb2 := over_bel hw2
          clear hw2 hne
          go_wp2
          go_ret
          exact ⟨retB HN.out.symm, grow_on HB2.out hb2⟩
        · have b1 : decide ((nthT l k).2 < 0) = false := decide_eq_false c1
          have hq : Int.tdiv ((k : Int) - 1) 2 = ((par k : Nat) : Int) := by
            unfold par
            by_cases hk0 : k = 0
            · subst hk0; rfl
            · rw [Int.tdiv_eq_ediv_of_nonneg (by omega)]; omega
          have hp : par k < l.length := by unfold par; omega
          have hp' : ((par k : Nat) : Int) < (l.length : Int) := by omega
          obtain ⟨h2, h3⟩ := HX.out _ hp
          have hbW : b < W2.heap.size := Nat.lt_of_lt_of_le hb HB1.out.size
          have x2 := fun x : Grown W2 => x.cell hbW ((HB1.out.cell (p := ⟨b, off + par k * 2, none⟩) hb).trans h2)
          have x3 := fun x : Grown W2 => x.cell hbW ((HB1.out.cell (p := ⟨b, off + par k * 2 + 1, none⟩) hb).trans h3)
          have HO : Hid (okAt l k = !befB (nthT l k) (nthT l (par k))) := by
            unfold Hid
            rw [ok_eq, decide_eq_true (p := 0 ≤ (nthT l k).1) (by omega), decide_eq_true (p := 0 ≤ (nthT l k).2) (by omega)]; rfl
          clear h0 h1 h2 h3
          cases cb : befB (nthT l k) (nthT l (par k)) with
          | true =>
            have HN : Hid (heapOkB l = false) := by
              unfold Hid heapOkB
              rw [heapB_no hlt (by rw [HO.out, cb]; rfl)]; rfl
            have HC : ∀ w, Hid (Calls Try.prog 16 #[.agg #[.int .i64 (nthT l k).1, .int .i64 (nthT l k).2], .agg #[.int .i64 (nthT l (par k)).1, .int .i64 (nthT l (par k)).2]] w fun e w' => e = .returned (.bool true) ∧ Below w.heap.size w w') := fun w => (implBefore_any (nthT l k) (nthT l (par k)) w).mono fun e w' h => ⟨h.1.trans (retB cb), h.2⟩
            clear cb HO
            generalize par k = q at *
            go_wp2_with fail
            refine wp_over (z := W2) (by kernel_rfl) (by kernel_rfl) (Below.refl _ _) ?_
            repeat (go_big_quiet_step (first | (go_at_call 16; exact call_over (HC _).out)))
            refine wpQuiet_nil ?_
            intro w2 hw2
            have hb2 := over_bel hw2
            clear hw2 hne
            go_wp2
            go_ret
            exact ⟨retB HN.out.symm, grow_on HB2.out hb2⟩
          | false =>
            have HU1 : Hid (∀ j, j < k + 1 → okAt l j = true) := fun j hj => by
              by_cases e : j = k
              · subst e; rw [HO.out, cb]; rfl
              · exact HU.out j (by omega)
            have HC : ∀ w, Hid (Calls Try.prog 16 #[.agg #[.int .i64 (nthT l k).1, .int .i64 (nthT l k).2], .agg #[.int .i64 (nthT l (par k)).1, .int .i64 (nthT l (par k)).2]] w fun e w' => e = .returned (.bool false) ∧ Below w.heap.size w w') := fun w => (implBefore_any (nthT l k) (nthT l (par k)) w).mono fun e w' h => ⟨h.1.trans (retB cb), h.2⟩
            clear cb HO
            generalize par k = q at *
            go_wp2_with fail
            refine wp_over (z := W2) (by kernel_rfl) (by kernel_rfl) (Below.refl _ _) ?_
            repeat (go_big_quiet_step (first | (go_at_call 16; exact call_over (HC _).out)))
            refine wpQuiet_nil ?_
            intro w2 hw2
            have hb2 := over_bel hw2
            clear hw2 hne
            go_wp2
            go_roundw
            case rel => exact ⟨k + 1, by go_num, by omega, HU1.out, grow_on HB2.out hb2⟩
            case measure => simp [intOf]; omega
    · have hge : ¬ (k : Int) < (l.length : Int) := by omega
      have hkl : k = l.length := by omega
      have HY : Hid (heapOkB l = true) := by unfold Hid heapOkB; rw [heapB_all (fun j hj => HU.out j (by omega)), decide_eq_true (p := l.length ≤ 16) (by omega)]; rfl
      go_wp2
      go_ret
      exact ⟨retB HY.out.symm, HB.out⟩
end Go.Proofs.Ytcjhieknmblbbaa.HpN
