/-
  PROVED: impl.NextDue answers as a plain function on numbers says; nothing that was there is changed.
-/
import Derived.Test.YtekcmpjjfnijmaaQGrpO
set_option linter.unusedVariables false
namespace Go.Proofs.Ytekcmpjjfnijmaa.GrpN
open Go.RowKit
open Over Grp GrpO
theorem implNext_any (n b t wait every : Int) (v u : Value) (w : World) (hv : ∃ a k c, v = .slice a k c) (hu : ∃ a k c, u = .slice a k c) :
    Calls Try.prog 26 #[.agg #[.int .i64 n, v, .int .i64 b, .int .i64 t, u], .int .i64 wait, .int .i64 every] w fun e w' => e = .returned (.int .i64 (nextB b t wait every)) ∧ Below w.heap.size w w' := by
  obtain ⟨a1, k1, c1, rfl⟩ := hv
  obtain ⟨a2, k2, c2, rfl⟩ := hu
  by_cases h : t = -1
  · have HE : Hid (nextB b t wait every = wrap64 (b + wait)) := if_pos h
    subst h
    go_enter Try.func26, Try.ntmps26
    go_wp2
    go_ret
    exact ⟨retN HE.out.symm, Go.Joins.below_alloc1 w _⟩
  · have HE : Hid (nextB b t wait every = wrap64 (t + every)) := if_neg h
    have hb : (t == -1) = false := by simpa using h
    go_enter Try.func26, Try.ntmps26
    go_wp2
    go_ret
    exact ⟨retN HE.out.symm, Go.Joins.below_alloc1 w _⟩
end Go.Proofs.Ytekcmpjjfnijmaa.GrpN
