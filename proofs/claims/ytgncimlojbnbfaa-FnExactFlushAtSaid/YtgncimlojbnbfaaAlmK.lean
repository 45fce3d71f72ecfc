/-
  PROVED: the contracts of laws.markAlarm and laws.heldAlarm: the marks are written into the alarm's labels alone, and found there.
-/
import Derived.Test.YtgncimlojbnbfaaAlmS
import Derived.Test.YtgncimlojbnbfaaMark
namespace Go.Proofs.Ytgncimlojbnbfaa.AlmK
open Go.RowKit
open Go.Proofs.Ytgncimlojbnbfaa.Labs Go.Proofs.Ytgncimlojbnbfaa.LabS Go.Proofs.Ytgncimlojbnbfaa.Alm Go.Proofs.Ytgncimlojbnbfaa.Over Go.Proofs.Ytgncimlojbnbfaa.Blk Go.Proofs.Ytgncimlojbnbfaa.Mark
set_option linter.unusedVariables false

theorem Apart.ahead {M : Nat} {a b c : World} (h : Below a.heap.size a b) (k : Apart M b c) : Apart M a c := (Apart.of h).trans k

theorem markA_any (M n cap k : Nat) (s e : Int) (t : ByteArray) (cs : Array Value) (w : World) (hB : Blk w M cs 73) (hs : n * 2 ≤ cs.size) (hn : n ≤ 1048576) (hk : 1 ≤ k) (hk2 : k ≤ 10000000) :
    Calls Try.prog 29 #[.agg #[.slice (some ⟨M, 0, none⟩) n cap, .int .i64 s, .int .i64 e, .string t], .int .i64 k] w fun r w' => r = .returned (.int .i64 ((k + 2 * n : Nat) : Int)) ∧ (∃ cs' : Array Value, Blk w' M cs' 73 ∧ cs'.size = cs.size ∧ Marked cs' k n) ∧ Apart M w w' := by
  have HB : Hid (Blk w M cs 73) := hB
  clear hB
  go_enter Try.func29, Try.ntmps29
  go_wp2_with fail
  refine (mark_any M n cap k cs _ (HB.out.alloc _) hs hn hk hk2).mono ?_
  rintro r w1 ⟨rfl, h1, h2⟩
  have H : Hid ((∃ cs' : Array Value, Blk w1 M cs' 73 ∧ cs'.size = cs.size ∧ Marked cs' k n) ∧ Apart M w w1) := ⟨h1, Apart.ahead (Go.Joins.below_alloc1 w _) h2⟩
  clear h1 h2
  go_wp2
  go_ret
  exact ⟨rfl, H.out⟩

end Go.Proofs.Ytgncimlojbnbfaa.AlmK
