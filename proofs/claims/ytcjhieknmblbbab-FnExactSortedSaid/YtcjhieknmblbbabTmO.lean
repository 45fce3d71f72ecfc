/-
  PROVED: spec.Before and spec.HeapOk answer as plain functions on pairs of numbers and on lists of them say; nothing that was there is changed.
-/
import Derived.Test.YtcjhieknmblbbabTms
namespace Go.Proofs.Ytcjhieknmblbbab.TmO
open Go.RowKit
open Go.Proofs.Ytcjhieknmblbbab.Hp Go.Proofs.Ytcjhieknmblbbab.Tms Go.Proofs.Ytcjhieknmblbbab.Over Go.Proofs.Ytcjhieknmblbbab.Blk
set_option linter.unusedVariables false

theorem specBefore_any (x y : Tm) (w : World) :
    Calls Try.prog 25 #[.agg #[.int .i64 x.1, .int .i64 x.2], .agg #[.int .i64 y.1, .int .i64 y.2]] w fun e w' => e = .returned (.bool (befB x y)) ∧ Below w.heap.size w w' := by
  obtain ⟨a, b⟩ := x
  obtain ⟨c, d⟩ := y
  by_cases h : a < c
  · have HL : Hid (befB (a, b) (c, d) = true) := bef_iff.2 (.inl h)
    go_enter Try.func25, Try.ntmps25
    go_wp2
    go_ret
    exact ⟨retB HL.out.symm, ((Below.refl _ _).alloc (Nat.le_refl _) _).alloc (by simp) _⟩
  · by_cases h2 : a = c
    · by_cases h3 : b < d
      · have HL : Hid (befB (a, b) (c, d) = true) := bef_iff.2 (.inr ⟨h2, h3⟩)
        subst h2
        go_enter Try.func25, Try.ntmps25
        go_wp2
        go_ret
        exact ⟨retB HL.out.symm, ((Below.refl _ _).alloc (Nat.le_refl _) _).alloc (by simp) _⟩
      · have HL : Hid (befB (a, b) (c, d) = false) := by unfold Hid; rw [← Bool.not_eq_true, bef_iff]; simp; omega
        subst h2
        go_enter Try.func25, Try.ntmps25
        go_wp2
        go_ret
        exact ⟨retB HL.out.symm, ((Below.refl _ _).alloc (Nat.le_refl _) _).alloc (by simp) _⟩
    · have HL : Hid (befB (a, b) (c, d) = false) := by unfold Hid; rw [← Bool.not_eq_true, bef_iff]; simp; omega
      have h4 : (a == c) = false := by simpa using h2
      go_enter Try.func25, Try.ntmps25
      go_wp2
      go_ret
      exact ⟨retB HL.out.symm, ((Below.refl _ _).alloc (Nat.le_refl _) _).alloc (by simp) _⟩

/-- right at the place k -/
def okAt (l : List Tm) (k : Nat) : Bool := decide (0 ≤ (nthT l k).1) && decide (0 ≤ (nthT l k).2) && (decide (k = 0) || !befB (nthT l k) (nthT l (par k)))
theorem heapB_all {l : List Tm} (h : ∀ j, j < l.length → okAt l j = true) : heapB l = true := List.all_eq_true.2 fun i hi => h i (List.mem_range.1 hi)
theorem heapB_no {l : List Tm} {k : Nat} (hk : k < l.length) (h : okAt l k = false) : heapB l = false := by
  rw [← Bool.not_eq_true]
  intro e
  have := List.all_eq_true.1 e k (List.mem_range.2 hk)
  exact absurd ((show okAt l k = true from this).symm.trans h) (by decide)
def heapOkB (l : List Tm) : Bool := heapB l && decide (l.length ≤ 16)

end Go.Proofs.Ytcjhieknmblbbab.TmO
