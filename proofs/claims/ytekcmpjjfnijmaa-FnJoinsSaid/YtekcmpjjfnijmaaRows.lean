/-
  No cell of these rows narrows 'for every input' (looked for: loops, veiled, ifaces, maps, wideKeys, modest, calm, conditions, laid).
  DERIVED. THE GIVEN ROWS OF THIS SEAT. 6 by the template 'for every input the law returns true; each argument reads behind the call as it read before'; 0 by the template 'total and deterministic' (their statements: YtekcmpjjfnijmaaTotals.lean).
  GIVEN WITH THE SEED: the statements are not yours to turn. If you find one false, say at which input.
  Laid BY PROGRAM, IN A SANDBOX (cutbox-rows.mjs): the forced cells as the released guide's own fill.sh prints them over the translation 0de00f91a4f58383… (all of the seat's roots in one cut). By AI agents, Wed Nov 11 2026. No macro, syntax, notation, axiom, sorry.
-/
import Derived.Test.YtekcmpjjfnijmaaChecked
import GoSem.Claim
import GoSem.ClaimJoined
import GoSem.ClaimMapViews
import Derived.JoinedTies
import Derived.KernelRfl
namespace Go.Proofs.Ytekcmpjjfnijmaa
/- THE CELL 'sum', in the pinned program and in every row, IS THE sha256 OF THE DUMP (.gsa) THAT YtekcmpjjfnijmaaProg.lean LOADS. Nothing in Lean hashes anything: it is a label: what it is worth is what the hold of that sum in a sandbox is worth. -/
noncomputable def Try.pinned : Pinned := { name := "ytekcmpjjfnijmaa", sum := "0de00f91a4f58383c16fb68a0862186a9e2db075f09e79b2650be205f4ca6b6c", checked := Try.checked }
namespace Rows
def none {H : Type} : Left H := { results := [], args := [] }

/-- 'laws.FnJoins': WHATEVER THE INPUT: true; the input reads as it did. -/
def fnJoinsSpec : ChangeSpec := { name := "fnJoins", fn := fun _ => fun
  | [d] => { results := [.lit (.bool true)], args := [d] }
  | _ => none }
def fnJoinsRow : OpenClaim := { program := "ytekcmpjjfnijmaa", sum := "0de00f91a4f58383c16fb68a0862186a9e2db075f09e79b2650be205f4ca6b6c", func := "loop.example/g00490/laws.FnJoins", spec := "fnJoins", unfollowed := true, recurses := true, apart := false }
def FnJoinsSaid : Prop := fnJoinsRow.holds Try.pinned (OpenSpec.ofChange fnJoinsSpec)

/-- ITS FALSE NEIGHBOUR: 'it returns false'. Refute it at one input. -/
def fnJoinsWrong : ChangeSpec := { name := "fnJoins", fn := fun _ => fun
  | [d] => { results := [.lit (.bool false)], args := [d] }
  | _ => none }
def FnJoinsWrongFalsely : Prop := fnJoinsRow.holds Try.pinned (OpenSpec.ofChange fnJoinsWrong)

/-- 'laws.FnExactGroupOk': WHATEVER THE INPUT: true; the input reads as it did. -/
def fnExactGroupOkSpec : ChangeSpec := { name := "fnExactGroupOk", fn := fun _ => fun
  | [d1, d2] => { results := [.lit (.bool true)], args := [d1, d2] }
  | _ => none }
def fnExactGroupOkRow : OpenClaim := { program := "ytekcmpjjfnijmaa", sum := "0de00f91a4f58383c16fb68a0862186a9e2db075f09e79b2650be205f4ca6b6c", func := "loop.example/g00490/laws.FnExactGroupOk", spec := "fnExactGroupOk", unfollowed := true, recurses := true, apart := false }
def FnExactGroupOkSaid : Prop := fnExactGroupOkRow.holds Try.pinned (OpenSpec.ofChange fnExactGroupOkSpec)

/-- ITS FALSE NEIGHBOUR: 'it returns false'. Refute it at one input. -/
def fnExactGroupOkWrong : ChangeSpec := { name := "fnExactGroupOk", fn := fun _ => fun
  | [d1, d2] => { results := [.lit (.bool false)], args := [d1, d2] }
  | _ => none }
def FnExactGroupOkWrongFalsely : Prop := fnExactGroupOkRow.holds Try.pinned (OpenSpec.ofChange fnExactGroupOkWrong)

/-- 'laws.FnExactSameGroup': WHATEVER THE INPUT: true; the input reads as it did. -/
def fnExactSameGroupSpec : ChangeSpec := { name := "fnExactSameGroup", fn := fun _ => fun
  | [d1, d2] => { results := [.lit (.bool true)], args := [d1, d2] }
  | _ => none }
def fnExactSameGroupRow : OpenClaim := { program := "ytekcmpjjfnijmaa", sum := "0de00f91a4f58383c16fb68a0862186a9e2db075f09e79b2650be205f4ca6b6c", func := "loop.example/g00490/laws.FnExactSameGroup", spec := "fnExactSameGroup", unfollowed := true, recurses := true, apart := false }
def FnExactSameGroupSaid : Prop := fnExactSameGroupRow.holds Try.pinned (OpenSpec.ofChange fnExactSameGroupSpec)

/-- ITS FALSE NEIGHBOUR: 'it returns false'. Refute it at one input. -/
def fnExactSameGroupWrong : ChangeSpec := { name := "fnExactSameGroup", fn := fun _ => fun
  | [d1, d2] => { results := [.lit (.bool false)], args := [d1, d2] }
  | _ => none }
def FnExactSameGroupWrongFalsely : Prop := fnExactSameGroupRow.holds Try.pinned (OpenSpec.ofChange fnExactSameGroupWrong)

/-- 'laws.FnExactSameBatch': WHATEVER THE INPUT: true; the input reads as it did. -/
def fnExactSameBatchSpec : ChangeSpec := { name := "fnExactSameBatch", fn := fun _ => fun
  | [d1, d2] => { results := [.lit (.bool true)], args := [d1, d2] }
  | _ => none }
def fnExactSameBatchRow : OpenClaim := { program := "ytekcmpjjfnijmaa", sum := "0de00f91a4f58383c16fb68a0862186a9e2db075f09e79b2650be205f4ca6b6c", func := "loop.example/g00490/laws.FnExactSameBatch", spec := "fnExactSameBatch", unfollowed := true, recurses := true, apart := false }
def FnExactSameBatchSaid : Prop := fnExactSameBatchRow.holds Try.pinned (OpenSpec.ofChange fnExactSameBatchSpec)

/-- ITS FALSE NEIGHBOUR: 'it returns false'. Refute it at one input. -/
def fnExactSameBatchWrong : ChangeSpec := { name := "fnExactSameBatch", fn := fun _ => fun
  | [d1, d2] => { results := [.lit (.bool false)], args := [d1, d2] }
  | _ => none }
def FnExactSameBatchWrongFalsely : Prop := fnExactSameBatchRow.holds Try.pinned (OpenSpec.ofChange fnExactSameBatchWrong)

/-- 'laws.FnExactJoinIn': WHATEVER THE INPUT: true; the input reads as it did. -/
def fnExactJoinInSpec : ChangeSpec := { name := "fnExactJoinIn", fn := fun _ => fun
  | [d1, d2] => { results := [.lit (.bool true)], args := [d1, d2] }
  | _ => none }
def fnExactJoinInRow : OpenClaim := { program := "ytekcmpjjfnijmaa", sum := "0de00f91a4f58383c16fb68a0862186a9e2db075f09e79b2650be205f4ca6b6c", func := "loop.example/g00490/laws.FnExactJoinIn", spec := "fnExactJoinIn", unfollowed := true, recurses := true, apart := false }
def FnExactJoinInSaid : Prop := fnExactJoinInRow.holds Try.pinned (OpenSpec.ofChange fnExactJoinInSpec)

/-- ITS FALSE NEIGHBOUR: 'it returns false'. Refute it at one input. -/
def fnExactJoinInWrong : ChangeSpec := { name := "fnExactJoinIn", fn := fun _ => fun
  | [d1, d2] => { results := [.lit (.bool false)], args := [d1, d2] }
  | _ => none }
def FnExactJoinInWrongFalsely : Prop := fnExactJoinInRow.holds Try.pinned (OpenSpec.ofChange fnExactJoinInWrong)

/-- 'laws.FnExactFlush': WHATEVER THE INPUT: true; the input reads as it did. -/
def fnExactFlushSpec : ChangeSpec := { name := "fnExactFlush", fn := fun _ => fun
  | [d1, d2] => { results := [.lit (.bool true)], args := [d1, d2] }
  | _ => none }
def fnExactFlushRow : OpenClaim := { program := "ytekcmpjjfnijmaa", sum := "0de00f91a4f58383c16fb68a0862186a9e2db075f09e79b2650be205f4ca6b6c", func := "loop.example/g00490/laws.FnExactFlush", spec := "fnExactFlush", unfollowed := true, recurses := true, apart := false }
def FnExactFlushSaid : Prop := fnExactFlushRow.holds Try.pinned (OpenSpec.ofChange fnExactFlushSpec)

/-- ITS FALSE NEIGHBOUR: 'it returns false'. Refute it at one input. -/
def fnExactFlushWrong : ChangeSpec := { name := "fnExactFlush", fn := fun _ => fun
  | [d1, d2] => { results := [.lit (.bool false)], args := [d1, d2] }
  | _ => none }
def FnExactFlushWrongFalsely : Prop := fnExactFlushRow.holds Try.pinned (OpenSpec.ofChange fnExactFlushWrong)

/- THE SECOND FORM. 'bulk': how many values and letters a reading holds, each counted each time it is reached (what is shared counts as often as it is met; a slice's spare places count too). A statement '..UptoSaid' is the law's where the arguments, and the package variables that the reading takes, are together of bulk at most 1048576: NARROWER than '..Said'. Prove '..Said' where nothing that the law and all that it calls make is longer than what came in: it says more and counts as full. Else prove '..UptoSaid'. A law counts once. -/
mutual
def uptoBulk {H : Type} : DataW H → Nat
  | .lit (.string bytes) => bytes.length + 1
  | .lit _ => 1
  | .nil => 1
  | .ptr d => uptoBulk d + 1
  | .slice elems spare => uptoBulkAll elems + uptoBulkAll spare + 1
  | .agg parts => uptoBulkAll parts + 1
  | .iface _ d => uptoBulk d + 1
  | .map entries => uptoBulkEntries entries + 1
  | .held _ => 1
def uptoBulkAll {H : Type} : List (DataW H) → Nat
  | [] => 0
  | d :: r => uptoBulk d + uptoBulkAll r
def uptoBulkEntries {H : Type} : List (Lit × DataW H) → Nat
  | [] => 0
  | x :: r => uptoBulkEntry x + uptoBulkEntries r
def uptoBulkEntry {H : Type} : Lit × DataW H → Nat
  | (.string bytes, d) => bytes.length + uptoBulk d + 1
  | (_, d) => uptoBulk d + 1
 end
def uptoSmall : (H : Type) → List (DataW H) → Bool := fun _ ds => decide (uptoBulkAll ds ≤ 1048576)
def OpenSpec.upto (s : _root_.Go.ChangeSpec) : _root_.Go.OpenSpec := { _root_.Go.OpenSpec.ofChange s with cond := some uptoSmall }

/-- 'laws.FnJoins', WHERE WHAT IT READS IS OF BULK AT MOST 1048576: true; the input reads as it did. -/
def fnJoinsUptoRow : OpenClaim := { program := "ytekcmpjjfnijmaa", sum := "0de00f91a4f58383c16fb68a0862186a9e2db075f09e79b2650be205f4ca6b6c", func := "loop.example/g00490/laws.FnJoins", spec := "fnJoins", unfollowed := true, recurses := true, apart := false, narrowed := true }
def FnJoinsUptoSaid : Prop := fnJoinsUptoRow.holds Try.pinned (OpenSpec.upto fnJoinsSpec)

/-- 'laws.FnExactGroupOk', WHERE WHAT IT READS IS OF BULK AT MOST 1048576: true; the input reads as it did. -/
def fnExactGroupOkUptoRow : OpenClaim := { program := "ytekcmpjjfnijmaa", sum := "0de00f91a4f58383c16fb68a0862186a9e2db075f09e79b2650be205f4ca6b6c", func := "loop.example/g00490/laws.FnExactGroupOk", spec := "fnExactGroupOk", unfollowed := true, recurses := true, apart := false, narrowed := true }
def FnExactGroupOkUptoSaid : Prop := fnExactGroupOkUptoRow.holds Try.pinned (OpenSpec.upto fnExactGroupOkSpec)

/-- 'laws.FnExactSameGroup', WHERE WHAT IT READS IS OF BULK AT MOST 1048576: true; the input reads as it did. -/
def fnExactSameGroupUptoRow : OpenClaim := { program := "ytekcmpjjfnijmaa", sum := "0de00f91a4f58383c16fb68a0862186a9e2db075f09e79b2650be205f4ca6b6c", func := "loop.example/g00490/laws.FnExactSameGroup", spec := "fnExactSameGroup", unfollowed := true, recurses := true, apart := false, narrowed := true }
def FnExactSameGroupUptoSaid : Prop := fnExactSameGroupUptoRow.holds Try.pinned (OpenSpec.upto fnExactSameGroupSpec)

/-- 'laws.FnExactSameBatch', WHERE WHAT IT READS IS OF BULK AT MOST 1048576: true; the input reads as it did. -/
def fnExactSameBatchUptoRow : OpenClaim := { program := "ytekcmpjjfnijmaa", sum := "0de00f91a4f58383c16fb68a0862186a9e2db075f09e79b2650be205f4ca6b6c", func := "loop.example/g00490/laws.FnExactSameBatch", spec := "fnExactSameBatch", unfollowed := true, recurses := true, apart := false, narrowed := true }
def FnExactSameBatchUptoSaid : Prop := fnExactSameBatchUptoRow.holds Try.pinned (OpenSpec.upto fnExactSameBatchSpec)

/-- 'laws.FnExactJoinIn', WHERE WHAT IT READS IS OF BULK AT MOST 1048576: true; the input reads as it did. -/
def fnExactJoinInUptoRow : OpenClaim := { program := "ytekcmpjjfnijmaa", sum := "0de00f91a4f58383c16fb68a0862186a9e2db075f09e79b2650be205f4ca6b6c", func := "loop.example/g00490/laws.FnExactJoinIn", spec := "fnExactJoinIn", unfollowed := true, recurses := true, apart := false, narrowed := true }
def FnExactJoinInUptoSaid : Prop := fnExactJoinInUptoRow.holds Try.pinned (OpenSpec.upto fnExactJoinInSpec)

/-- 'laws.FnExactFlush', WHERE WHAT IT READS IS OF BULK AT MOST 1048576: true; the input reads as it did. -/
def fnExactFlushUptoRow : OpenClaim := { program := "ytekcmpjjfnijmaa", sum := "0de00f91a4f58383c16fb68a0862186a9e2db075f09e79b2650be205f4ca6b6c", func := "loop.example/g00490/laws.FnExactFlush", spec := "fnExactFlush", unfollowed := true, recurses := true, apart := false, narrowed := true }
def FnExactFlushUptoSaid : Prop := fnExactFlushUptoRow.holds Try.pinned (OpenSpec.upto fnExactFlushSpec)

end Rows
end Go.Proofs.Ytekcmpjjfnijmaa
