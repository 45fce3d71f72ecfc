/-
  PROVED: the contracts of laws.markAlarm and laws.heldAlarm: the marks are written into the alarm's labels alone, and found there.
-/
import Derived.Test.YtekcmpjjfnijmaaAlmS
import Derived.Test.YtekcmpjjfnijmaaMark
namespace Go.Proofs.Ytekcmpjjfnijmaa.AlmK
open Go.RowKit
open Go.Proofs.Ytekcmpjjfnijmaa.Labs Go.Proofs.Ytekcmpjjfnijmaa.LabS Go.Proofs.Ytekcmpjjfnijmaa.Alm Go.Proofs.Ytekcmpjjfnijmaa.Over Go.Proofs.Ytekcmpjjfnijmaa.Blk Go.Proofs.Ytekcmpjjfnijmaa.Mark
set_option linter.unusedVariables false

theorem Apart.ahead {M : Nat} {a b c : World} (h : Below a.heap.size a b) (k : Apart M b c) : Apart M a c := (Apart.of h).trans k

theorem markA_any (M n cap k : Nat) (s e : Int) (t : ByteArray) (cs : Array Value) (w : World) (hB : Blk w M cs 94) (hs : n * 2 ≤ cs.size) (hn : n ≤ 1048576) (hk : 1 ≤ k) (hk2 : k ≤ 10000000) :
    Calls Try.prog 44 #[.agg #[.slice (some ⟨M, 0, none⟩) n cap, .int .i64 s, .int .i64 e, .string t], .int .i64 k] w fun r w' => r = .returned (.int .i64 ((k + 2 * n : Nat) : Int)) ∧ (∃ cs' : Array Value, Blk w' M cs' 94 ∧ cs'.size = cs.size ∧ Marked cs' k n) ∧ Apart M w w' := by
  have HB : Hid (Blk w M cs 94) := hB
  clear hB
  go_enter Try.func44, Try.ntmps44
  go_wp2_with fail
  refine (mark_any M n cap k cs _ (HB.out.alloc _) hs hn hk hk2).mono ?_
  rintro r w1 ⟨rfl, h1, h2⟩
  have H : Hid ((∃ cs' : Array Value, Blk w1 M cs' 94 ∧ cs'.size = cs.size ∧ Marked cs' k n) ∧ Apart M w w1) := ⟨h1, Apart.ahead (Go.Joins.below_alloc1 w _) h2⟩
  clear h1 h2
  go_wp2
  go_ret
  exact ⟨rfl, H.out⟩

end Go.Proofs.Ytekcmpjjfnijmaa.AlmK
