/-
  PROVED: the contracts of laws.markAlarm and laws.heldAlarm: the marks are written into the alarm's labels alone, and found there.
-/
import Derived.Test.YtdmhccheaemkkaaAlmS
import Derived.Test.YtdmhccheaemkkaaMark
namespace Go.Proofs.Ytdmhccheaemkkaa.AlmK
open Go.RowKit
open Go.Proofs.Ytdmhccheaemkkaa.Labs Go.Proofs.Ytdmhccheaemkkaa.LabS Go.Proofs.Ytdmhccheaemkkaa.Alm Go.Proofs.Ytdmhccheaemkkaa.Over Go.Proofs.Ytdmhccheaemkkaa.Blk Go.Proofs.Ytdmhccheaemkkaa.Mark
set_option linter.unusedVariables false

theorem Apart.ahead {M : Nat} {a b c : World} (h : Below a.heap.size a b) (k : Apart M b c) : Apart M a c := (Apart.of h).trans k

theorem markA_any (M n cap k : Nat) (s e : Int) (t : ByteArray) (cs : Array Value) (w : World) (hB : Blk w M cs 102) (hs : n * 2 ≤ cs.size) (hn : n ≤ 1048576) (hk : 1 ≤ k) (hk2 : k ≤ 10000000) :
    Calls Try.prog 38 #[.agg #[.slice (some ⟨M, 0, none⟩) n cap, .int .i64 s, .int .i64 e, .string t], .int .i64 k] w fun r w' => r = .returned (.int .i64 ((k + 2 * n : Nat) : Int)) ∧ (∃ cs' : Array Value, Blk w' M cs' 102 ∧ cs'.size = cs.size ∧ Marked cs' k n) ∧ Apart M w w' := by
  have HB : Hid (Blk w M cs 102) := hB
  clear hB
  go_enter Try.func38, Try.ntmps38
  go_wp2_with fail
  refine (mark_any M n cap k cs _ (HB.out.alloc _) hs hn hk hk2).mono ?_
  rintro r w1 ⟨rfl, h1, h2⟩
  have H : Hid ((∃ cs' : Array Value, Blk w1 M cs' 102 ∧ cs'.size = cs.size ∧ Marked cs' k n) ∧ Apart M w w1) := ⟨h1, Apart.ahead (Go.Joins.below_alloc1 w _) h2⟩
  clear h1 h2
  go_wp2
  go_ret
  exact ⟨rfl, H.out⟩

theorem heldA_any (M n cap k : Nat) (s e : Int) (t : ByteArray) (cs : Array Value) (w : World) (hB : Blk w M cs 102) (hm : Marked cs k n) (hn : n ≤ 1048576) (hk : 1 ≤ k) (hk2 : k ≤ 10000000) :
    Calls Try.prog 40 #[.agg #[.slice (some ⟨M, 0, none⟩) n cap, .int .i64 s, .int .i64 e, .string t], .int .i64 k] w fun r w' => r = .returned (.int .i64 ((k + 2 * n : Nat) : Int)) ∧ Below w.heap.size w w' := by
  have HB : Hid (Blk w M cs 102) := hB
  have HM : Hid (Marked cs k n) := hm
  clear hB hm
  go_enter Try.func40, Try.ntmps40
  go_wp2_with fail
  refine (held_any M n cap k cs _ (HB.out.alloc _) HM.out hn hk hk2).mono ?_
  rintro r w1 ⟨rfl, hb⟩
  have H : Hid (Below w.heap.size w w1) := grow_on (Go.Joins.below_alloc1 w _) hb
  clear hb
  have hq : ¬ ((k + 2 * n : Nat) : Int) < 0 := by omega
  go_wp2
  go_ret
  exact ⟨rfl, H.out⟩

end Go.Proofs.Ytdmhccheaemkkaa.AlmK
