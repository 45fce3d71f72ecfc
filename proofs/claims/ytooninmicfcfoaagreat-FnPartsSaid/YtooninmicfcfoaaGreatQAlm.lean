/-
  PROVED: the contracts of what the exact laws call over an alarm: the size that szAlarm counts, the copy that toAlarm makes, whether eqAlarm finds two alike; what an alarm that came in is.
-/
import Derived.Test.YtooninmicfcfoaaGreatQLabT
import Derived.Lib.SmallJoins
set_option linter.unusedVariables false
namespace Go.Proofs.YtooninmicfcfoaaGreat.Alm
open Go.RowKit
open Labs LabS LabT Over Blk
open StrB (retB)

structure AlIn (w : World) (a : Option Addr) (l : List Lab) (s e : Int) (n : ByteArray) : Prop where
  reads : Reads w a l
  len : l.length ≤ maxLen
  fits : Fits l
  sb : -9223372036854775808 ≤ s ∧ s ≤ 9223372036854775807
  eb : -9223372036854775808 ≤ e ∧ e ≤ 9223372036854775807
  note : n.size ≤ maxLen
def sameB (l : List Lab) (s e : Int) (n : ByteArray) (l' : List Lab) (s' e' : Int) (n' : ByteArray) : Bool := decide (l = l') && decide (s = s') && decide (e = e') && decide (n = n')
theorem same_self (l : List Lab) (s e : Int) (n : ByteArray) : sameB l s e n l s e n = true := by simp [sameB]
theorem same_l {l l' : List Lab} {s e s' e' : Int} {n n' : ByteArray} (h : l ≠ l') : sameB l s e n l' s' e' n' = false := by simp [sameB, h]
theorem same_s {l l' : List Lab} {s e s' e' : Int} {n n' : ByteArray} (h : s ≠ s') : sameB l s e n l' s' e' n' = false := by simp [sameB, h]
theorem same_e {l l' : List Lab} {s e s' e' : Int} {n n' : ByteArray} (h : e ≠ e') : sameB l s e n l' s' e' n' = false := by simp [sameB, h]
theorem same_n {l l' : List Lab} {s e s' e' : Int} {n n' : ByteArray} (h : n ≠ n') : sameB l s e n l' s' e' n' = false := by simp [sameB, h]

theorem at_par {w w1 : World} {cs : Array Value} {T : TypeId} (hb : Below (w.alloc (.cells cs T)).heap.size (w.alloc (.cells cs T)) w1) (i : Nat) {v : Value} (h : cs[i]? = some v) : w1.cell? ⟨w.heap.size, i, none⟩ = some v := by
  rw [hb.cell (by simp), World.cell?_alloc_new]; exact h

theorem set4 {B M : Nat} {w w' : World} (h : Below B w w') (hM : B ≤ M) (v0 v1 v2 v3 : Value) : Below B w ((((w'.setCell ⟨M, 0, none⟩ v0).setCell ⟨M, 1, none⟩ v1).setCell ⟨M, 2, none⟩ v2).setCell ⟨M, 3, none⟩ v3) :=
  (((h.setCell hM _).setCell hM _).setCell hM _).setCell hM _
theorem blk4 {w : World} {M N : Nat} {cs : Array Value} {T : TypeId} (h : Blk w N cs T) (hne : M ≠ N) (v0 v1 v2 v3 : Value) : Blk ((((w.setCell ⟨M, 0, none⟩ v0).setCell ⟨M, 1, none⟩ v1).setCell ⟨M, 2, none⟩ v2).setCell ⟨M, 3, none⟩ v3) N cs T :=
  (((h.set_other hne _).set_other hne _).set_other hne _).set_other hne _
theorem put4 {w : World} {M : Nat} {x0 x1 x2 x3 : Value} {T : TypeId} (h : Blk w M #[x0, x1, x2, x3] T) (v0 v1 v2 v3 : Value) : Blk ((((w.setCell ⟨M, 0, none⟩ v0).setCell ⟨M, 1, none⟩ v1).setCell ⟨M, 2, none⟩ v2).setCell ⟨M, 3, none⟩ v3) M #[v0, v1, v2, v3] T :=
  (((h.set 0 v0).set 1 v1).set 2 v2).set 3 v3
theorem below3 (w : World) (o1 o2 o3 : Obj) : Below w.heap.size w (((w.alloc o1).alloc o2).alloc o3) := Go.Joins.below_alloc3 w o1 o2 o3
end Go.Proofs.YtooninmicfcfoaaGreat.Alm
