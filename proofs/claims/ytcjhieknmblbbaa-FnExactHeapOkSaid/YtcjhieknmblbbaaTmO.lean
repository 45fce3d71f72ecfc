/-
  PROVED: spec.Before and spec.HeapOk answer as plain functions on pairs of numbers and on lists of them say; nothing that was there is changed.
-/
import Derived.Test.YtcjhieknmblbbaaTms
namespace Go.Proofs.Ytcjhieknmblbbaa.TmO
open Go.RowKit
open Go.Proofs.Ytcjhieknmblbbaa.Hp Go.Proofs.Ytcjhieknmblbbaa.Tms Go.Proofs.Ytcjhieknmblbbaa.Over Go.Proofs.Ytcjhieknmblbbaa.Blk
set_option linter.unusedVariables false

theorem specBefore_any (x y : Tm) (w : World) :
    Calls Try.prog 29 #[.agg #[.int .i64 x.1, .int .i64 x.2], .agg #[.int .i64 y.1, .int .i64 y.2]] w fun e w' => e = .returned (.bool (befB x y)) ∧ Below w.heap.size w w' := by
  obtain ⟨a, b⟩ := x
  obtain ⟨c, d⟩ := y
  by_cases h : a < c
  · have HL : Hid (befB (a, b) (c, d) = true) := bef_iff.2 (.inl h)
    go_enter Try.func29, Try.ntmps29
    go_wp2
    go_ret
    exact ⟨retB HL.out.symm, ((Below.refl _ _).alloc (Nat.le_refl _) _).alloc (by simp) _⟩
  · by_cases h2 : a = c
    · by_cases h3 : b < d
      · have HL : Hid (befB (a, b) (c, d) = true) := bef_iff.2 (.inr ⟨h2, h3⟩)
        subst h2
        go_enter Try.func29, Try.ntmps29
        go_wp2
        go_ret
        exact ⟨retB HL.out.symm, ((Below.refl _ _).alloc (Nat.le_refl _) _).alloc (by simp) _⟩
      · have HL : Hid (befB (a, b) (c, d) = false) := by unfold Hid; rw [← Bool.not_eq_true, bef_iff]; simp; omega
        subst h2
        go_enter Try.func29, Try.ntmps29
        go_wp2
        go_ret
        exact ⟨retB HL.out.symm, ((Below.refl _ _).alloc (Nat.le_refl _) _).alloc (by simp) _⟩
    · have HL : Hid (befB (a, b) (c, d) = false) := by unfold Hid; rw [← Bool.not_eq_true, bef_iff]; simp; omega
      have h4 : (a == c) = false := by simpa using h2
      go_enter Try.func29, Try.ntmps29
      go_wp2
      go_ret
      exact ⟨retB HL.out.symm, ((Below.refl _ _).alloc (Nat.le_refl _) _).alloc (by simp) _⟩

/-- right at the place k -/
def okAt (l : List Tm) (k : Nat) : Bool := decide (0 ≤ (nthT l k).1) && decide (0 ≤ (nthT l k).2) && (decide (k = 0) || !befB (nthT l k) (nthT l (par k)))
theorem heapB_all {l : List Tm} (h : ∀ j, j < l.length → okAt l j = true) : heapB l = true := List.all_eq_true.2 fun i hi => h i (List.mem_range.1 hi)
theorem heapB_no {l : List Tm} {k : Nat} (hk : k < l.length) (h : okAt l k = false) : heapB l = false := by
  rw [← Bool.not_eq_true]
  intro e
  have := List.all_eq_true.1 e k (List.mem_range.2 hk)
  exact absurd ((show okAt l k = true from this).symm.trans h) (by decide)
def heapOkB (l : List Tm) : Bool := heapB l && decide (l.length ≤ 16)

set_option maxHeartbeats 800000 in
theorem specHeapOk_any (a : Option Addr) (cap : Nat) (l : List Tm) (w : World) (hr : RdT w a l) (hl : l.length ≤ maxLen) :
    Calls Try.prog 27 #[.slice a l.length cap] w fun e w' => e = .returned (.bool (heapOkB l)) ∧ Below w.heap.size w w' := by
  unfold maxLen at hl
  have HR : Hid (RdT w a l) := hr
  clear hr
  go_enter Try.func27, Try.ntmps27
  go_wp2
  go_loopw [3] (fun i w' => ∃ k : Nat, i = .int .i64 k ∧ k ≤ l.length ∧ (∀ j, j < k → okAt l j = true) ∧ Below w.heap.size w w') (fun i _ => l.length - (intOf i).toNat)
  case atStart => exact ⟨0, rfl, Nat.zero_le _, fun j h => by omega, Below.refl _ _⟩
  case round =>
    obtain ⟨k, rfl, hk, hu, hw0⟩ := hrel
    have HU : Hid (∀ j, j < k → okAt l j = true) := hu
    have HB : Hid (Below w.heap.size w wr) := hw0
    have HR1 : Hid (RdT wr a l) := HR.out.below hw0
    clear hw0 hu
    by_cases hlt : k < l.length
    · have hlt' : (k : Int) < (l.length : Int) := by omega
      obtain ⟨b, off, rfl, hb, hc⟩ := HR1.out.get hlt
      obtain ⟨h0, h1⟩ := hc k hlt
      have hne := Grown.some wr
      have x0 := fun x : Grown wr => x.cell hb h0
      have x1 := fun x : Grown wr => x.cell hb h1
      have HX : Hid (∀ i, i < l.length → wr.cell? ⟨b, off + i * 2, none⟩ = some (.int .i64 (nthT l i).1) ∧ wr.cell? ⟨b, off + i * 2 + 1, none⟩ = some (.int .i64 (nthT l i).2)) := hc
      clear hc
      by_cases c0 : (nthT l k).1 < 0
      · have HN : Hid (heapOkB l = false) := by
          unfold Hid heapOkB
          rw [heapB_no hlt (by unfold okAt; rw [decide_eq_false (by omega)]; rfl)]; rfl
        have HN : Hid (heapOkB l = false) := by
          unfold Hid heapOkB
          rw [heapB_no hlt (by unfold okAt; rw [decide_eq_false (by omega)]; rfl)]; rfl
        clear h0 h1
        go_wp2
        refine wp_over (z := wr) (by kernel_rfl) (by kernel_rfl) (Below.refl _ _) ?_
        repeat (go_big_quiet_step (fail))
        refine wpQuiet_nil ?_
        intro w2 hw2
        have hb2 := over_bel hw2
        clear hw2 hne
        go_wp2
        go_ret
        exact ⟨retB HN.out.symm, HB.out.trans (hb2.mono HB.out.size)⟩
      · have b0 : decide ((nthT l k).1 < 0) = false := decide_eq_false c0
        by_cases c1 : (nthT l k).2 < 0
        · have HN : Hid (heapOkB l = false) := by
            unfold Hid heapOkB
            rw [heapB_no hlt (by unfold okAt; rw [decide_eq_false (p := 0 ≤ (nthT l k).2) (by omega), Bool.and_false]; rfl)]; rfl
          clear h0 h1
          go_wp2
          refine wp_over (z := wr) (by kernel_rfl) (by kernel_rfl) (Below.refl _ _) ?_
          repeat (go_big_quiet_step (fail))
          refine wpQuiet_nil ?_
          intro w2 hw2
          have hb2 := over_bel hw2
          clear hw2 hne
          go_wp2
          go_ret
          exact ⟨retB HN.out.symm, HB.out.trans (hb2.mono HB.out.size)⟩
        · have b1 : decide ((nthT l k).2 < 0) = false := decide_eq_false c1
          by_cases ck : k = 0
          · have HU1 : Hid (∀ j, j < k + 1 → okAt l j = true) := fun j hj => by
              by_cases e : j = k
              · subst e; unfold okAt; rw [decide_eq_true (p := 0 ≤ (nthT l j).1) (by omega), decide_eq_true (p := 0 ≤ (nthT l j).2) (by omega), decide_eq_true ck]; rfl
              · exact HU.out j (by omega)
            have ck' : ¬ (0 : Int) < (k : Int) := by omega
            have bk : decide (0 < k) = false := decide_eq_false (by omega)
            clear h0 h1 ck ck'
            go_wp2
            refine wp_over (z := wr) (by kernel_rfl) (by kernel_rfl) (Below.refl _ _) ?_
            repeat (go_big_quiet_step (fail))
            refine wpQuiet_nil ?_
            intro w2 hw2
            have hb2 := over_bel hw2
            clear hw2 hne
            go_wp2
            go_roundw
            case rel => exact ⟨k + 1, by go_num, by omega, HU1.out, HB.out.trans (hb2.mono HB.out.size)⟩
            case measure => simp [intOf]; omega
          · have ck' : (0 : Int) < (k : Int) := by omega
            have bk : decide (0 < k) = true := decide_eq_true (by omega)
            have hq : Int.tdiv ((k : Int) - 1) 2 = ((par k : Nat) : Int) := by unfold par; rw [Int.tdiv_eq_ediv_of_nonneg (by omega)]; omega
            have hp : par k < l.length := by unfold par; omega
            have hp' : ((par k : Nat) : Int) < (l.length : Int) := by omega
            obtain ⟨h2, h3⟩ := HX.out _ hp
            have x2 := fun x : Grown wr => x.cell hb h2
            have x3 := fun x : Grown wr => x.cell hb h3
            clear h0 h1 h2 h3
            by_cases cb : befB (nthT l k) (nthT l (par k)) = true
            · have HN : Hid (heapOkB l = false) := by
                unfold Hid heapOkB
                rw [heapB_no hlt (by unfold okAt; rw [cb, decide_eq_false ck]; simp)]; rfl
              have HC : ∀ w, Hid (Calls Try.prog 29 #[.agg #[.int .i64 (nthT l k).1, .int .i64 (nthT l k).2], .agg #[.int .i64 (nthT l (par k)).1, .int .i64 (nthT l (par k)).2]] w fun e w' => e = .returned (.bool true) ∧ Below w.heap.size w w') := fun w => (specBefore_any (nthT l k) (nthT l (par k)) w).mono fun e w' h => ⟨h.1.trans (retB cb), h.2⟩
              clear cb
              generalize par k = q at *
              go_wp2
              refine wp_over (z := wr) (by kernel_rfl) (by kernel_rfl) (Below.refl _ _) ?_
              repeat (go_big_quiet_step (first | (go_at_call 29; exact call_over (HC _).out)))
              refine wpQuiet_nil ?_
              intro w2 hw2
              have hb2 := over_bel hw2
              clear hw2 hne
              go_wp2
              go_ret
              exact ⟨retB HN.out.symm, HB.out.trans (hb2.mono HB.out.size)⟩
            · have cb' : befB (nthT l k) (nthT l (par k)) = false := by simpa using cb
              have HU1 : Hid (∀ j, j < k + 1 → okAt l j = true) := fun j hj => by
                by_cases e : j = k
                · subst e; unfold okAt; rw [decide_eq_true (p := 0 ≤ (nthT l j).1) (by omega), decide_eq_true (p := 0 ≤ (nthT l j).2) (by omega), cb']; simp
                · exact HU.out j (by omega)
              have HC : ∀ w, Hid (Calls Try.prog 29 #[.agg #[.int .i64 (nthT l k).1, .int .i64 (nthT l k).2], .agg #[.int .i64 (nthT l (par k)).1, .int .i64 (nthT l (par k)).2]] w fun e w' => e = .returned (.bool false) ∧ Below w.heap.size w w') := fun w => (specBefore_any (nthT l k) (nthT l (par k)) w).mono fun e w' h => ⟨h.1.trans (retB cb'), h.2⟩
              clear cb cb'
              generalize par k = q at *
              go_wp2
              refine wp_over (z := wr) (by kernel_rfl) (by kernel_rfl) (Below.refl _ _) ?_
              repeat (go_big_quiet_step (first | (go_at_call 29; exact call_over (HC _).out)))
              refine wpQuiet_nil ?_
              intro w2 hw2
              have hb2 := over_bel hw2
              clear hw2 hne
              go_wp2
              go_roundw
              case rel => exact ⟨k + 1, by go_num, by omega, HU1.out, HB.out.trans (hb2.mono HB.out.size)⟩
              case measure => simp [intOf]; omega
    · have hge : ¬ (k : Int) < (l.length : Int) := by omega
      have hkl : k = l.length := by omega
      have HY : Hid (heapOkB l = decide (l.length ≤ 16)) := by unfold Hid heapOkB; rw [heapB_all (fun j hj => HU.out j (by omega))]; rfl
      by_cases c : l.length ≤ 16
      · have HZ : Hid (decide (l.length ≤ 16) = true) := decide_eq_true c
        have c' : (l.length : Int) ≤ 16 := by omega
        go_wp2
        go_ret
        exact ⟨retB (by rw [HY.out, HZ.out]), HB.out⟩
      · have HZ : Hid (decide (l.length ≤ 16) = false) := decide_eq_false c
        have c' : ¬ (l.length : Int) ≤ 16 := by omega
        go_wp2
        go_ret
        exact ⟨retB (by rw [HY.out, HZ.out]), HB.out⟩
end Go.Proofs.Ytcjhieknmblbbaa.TmO
