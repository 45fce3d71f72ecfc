/-
  No cell of these rows narrows 'for every input' (looked for: loops, veiled, ifaces, maps, wideKeys, modest, calm, conditions, laid).
  DERIVED. THE GIVEN ROWS OF THIS SEAT. 5 by the template 'for every input the law returns true; each argument reads behind the call as it read before'; 0 by the template 'total and deterministic' (their statements: YtinegehejinmiaaTotals.lean).
  GIVEN WITH THE SEED: the statements are not yours to turn. If you find one false, say at which input.
  Laid BY PROGRAM, IN A SANDBOX (cutbox-rows.mjs): the forced cells as the released guide's own fill.sh prints them over the translation 79026721ec872113… (all of the seat's roots in one cut). By AI agents, Wed Nov 11 2026. No macro, syntax, notation, axiom, sorry.
-/
import Derived.Test.YtinegehejinmiaaChecked
import GoSem.Claim
import GoSem.ClaimJoined
import GoSem.ClaimMapViews
import Derived.JoinedTies
import Derived.KernelRfl
namespace Go.Proofs.Ytinegehejinmiaa
/- THE CELL 'sum', in the pinned program and in every row, IS THE sha256 OF THE DUMP (.gsa) THAT YtinegehejinmiaaProg.lean LOADS. Nothing in Lean hashes anything: it is a label: what it is worth is what the hold of that sum in a sandbox is worth. -/
noncomputable def Try.pinned : Pinned := { name := "ytinegehejinmiaa", sum := "79026721ec872113c61856ed74668b9f593518eabc9f8b7e6efd5375bb740672", checked := Try.checked }
namespace Rows
def none {H : Type} : Left H := { results := [], args := [] }

/-- 'laws.FnSets': WHATEVER THE INPUT: true; the input reads as it did. -/
def fnSetsSpec : ChangeSpec := { name := "fnSets", fn := fun _ => fun
  | [d] => { results := [.lit (.bool true)], args := [d] }
  | _ => none }
def fnSetsRow : OpenClaim := { program := "ytinegehejinmiaa", sum := "79026721ec872113c61856ed74668b9f593518eabc9f8b7e6efd5375bb740672", func := "loop.example/g00490/laws.FnSets", spec := "fnSets", unfollowed := true, recurses := true, apart := false }
def FnSetsSaid : Prop := fnSetsRow.holds Try.pinned (OpenSpec.ofChange fnSetsSpec)

/-- ITS FALSE NEIGHBOUR: 'it returns false'. Refute it at one input. -/
def fnSetsWrong : ChangeSpec := { name := "fnSets", fn := fun _ => fun
  | [d] => { results := [.lit (.bool false)], args := [d] }
  | _ => none }
def FnSetsWrongFalsely : Prop := fnSetsRow.holds Try.pinned (OpenSpec.ofChange fnSetsWrong)

/-- 'laws.FnPrints': WHATEVER THE INPUT: true; the input reads as it did. -/
def fnPrintsSpec : ChangeSpec := { name := "fnPrints", fn := fun _ => fun
  | [d] => { results := [.lit (.bool true)], args := [d] }
  | _ => none }
def fnPrintsRow : OpenClaim := { program := "ytinegehejinmiaa", sum := "79026721ec872113c61856ed74668b9f593518eabc9f8b7e6efd5375bb740672", func := "loop.example/g00490/laws.FnPrints", spec := "fnPrints", inPlace := ["internal/abi.NoEscape", "internal/bytealg.MakeNoZero", "internal/bytealg.IndexByteString", "internal/bytealg.IndexString"], unfollowed := true, recurses := true, named := ["internal/bytealg.MaxLen"], apart := false }
def FnPrintsSaid : Prop := fnPrintsRow.holds Try.pinned (OpenSpec.ofChange fnPrintsSpec)

/-- ITS FALSE NEIGHBOUR: 'it returns false'. Refute it at one input. -/
def fnPrintsWrong : ChangeSpec := { name := "fnPrints", fn := fun _ => fun
  | [d] => { results := [.lit (.bool false)], args := [d] }
  | _ => none }
def FnPrintsWrongFalsely : Prop := fnPrintsRow.holds Try.pinned (OpenSpec.ofChange fnPrintsWrong)

/-- 'laws.FnMerges': WHATEVER THE INPUT: true; the input reads as it did. -/
def fnMergesSpec : ChangeSpec := { name := "fnMerges", fn := fun _ => fun
  | [d] => { results := [.lit (.bool true)], args := [d] }
  | _ => none }
def fnMergesRow : OpenClaim := { program := "ytinegehejinmiaa", sum := "79026721ec872113c61856ed74668b9f593518eabc9f8b7e6efd5375bb740672", func := "loop.example/g00490/laws.FnMerges", spec := "fnMerges", unfollowed := true, recurses := true, apart := false }
def FnMergesSaid : Prop := fnMergesRow.holds Try.pinned (OpenSpec.ofChange fnMergesSpec)

/-- ITS FALSE NEIGHBOUR: 'it returns false'. Refute it at one input. -/
def fnMergesWrong : ChangeSpec := { name := "fnMerges", fn := fun _ => fun
  | [d] => { results := [.lit (.bool false)], args := [d] }
  | _ => none }
def FnMergesWrongFalsely : Prop := fnMergesRow.holds Try.pinned (OpenSpec.ofChange fnMergesWrong)

/-- 'laws.FnExactSortSet': WHATEVER THE INPUT: true; the input reads as it did. -/
def fnExactSortSetSpec : ChangeSpec := { name := "fnExactSortSet", fn := fun _ => fun
  | [d] => { results := [.lit (.bool true)], args := [d] }
  | _ => none }
def fnExactSortSetRow : OpenClaim := { program := "ytinegehejinmiaa", sum := "79026721ec872113c61856ed74668b9f593518eabc9f8b7e6efd5375bb740672", func := "loop.example/g00490/laws.FnExactSortSet", spec := "fnExactSortSet", unfollowed := true, recurses := true, apart := false }
def FnExactSortSetSaid : Prop := fnExactSortSetRow.holds Try.pinned (OpenSpec.ofChange fnExactSortSetSpec)

/-- ITS FALSE NEIGHBOUR: 'it returns false'. Refute it at one input. -/
def fnExactSortSetWrong : ChangeSpec := { name := "fnExactSortSet", fn := fun _ => fun
  | [d] => { results := [.lit (.bool false)], args := [d] }
  | _ => none }
def FnExactSortSetWrongFalsely : Prop := fnExactSortSetRow.holds Try.pinned (OpenSpec.ofChange fnExactSortSetWrong)

/-- 'laws.FnExactAlarmOk': WHATEVER THE INPUT: true; the input reads as it did. -/
def fnExactAlarmOkSpec : ChangeSpec := { name := "fnExactAlarmOk", fn := fun _ => fun
  | [d] => { results := [.lit (.bool true)], args := [d] }
  | _ => none }
def fnExactAlarmOkRow : OpenClaim := { program := "ytinegehejinmiaa", sum := "79026721ec872113c61856ed74668b9f593518eabc9f8b7e6efd5375bb740672", func := "loop.example/g00490/laws.FnExactAlarmOk", spec := "fnExactAlarmOk", unfollowed := true, recurses := true, apart := false }
def FnExactAlarmOkSaid : Prop := fnExactAlarmOkRow.holds Try.pinned (OpenSpec.ofChange fnExactAlarmOkSpec)

/-- ITS FALSE NEIGHBOUR: 'it returns false'. Refute it at one input. -/
def fnExactAlarmOkWrong : ChangeSpec := { name := "fnExactAlarmOk", fn := fun _ => fun
  | [d] => { results := [.lit (.bool false)], args := [d] }
  | _ => none }
def FnExactAlarmOkWrongFalsely : Prop := fnExactAlarmOkRow.holds Try.pinned (OpenSpec.ofChange fnExactAlarmOkWrong)

/- THE SECOND FORM. 'bulk': how many values and letters a reading holds, each counted each time it is reached (what is shared counts as often as it is met; a slice's spare places count too). A statement '..UptoSaid' is the law's where the arguments, and the package variables that the reading takes, are together of bulk at most 1048576: NARROWER than '..Said'. Prove '..Said' where nothing that the law and all that it calls make is longer than what came in: it says more and counts as full. Else prove '..UptoSaid'. A law counts once. -/
mutual
def uptoBulk {H : Type} : DataW H → Nat
  | .lit (.string bytes) => bytes.length + 1
  | .lit _ => 1
  | .nil => 1
  | .ptr d => uptoBulk d + 1
  | .slice elems spare => uptoBulkAll elems + uptoBulkAll spare + 1
  | .agg parts => uptoBulkAll parts + 1
  | .iface _ d => uptoBulk d + 1
  | .map entries => uptoBulkEntries entries + 1
  | .held _ => 1
def uptoBulkAll {H : Type} : List (DataW H) → Nat
  | [] => 0
  | d :: r => uptoBulk d + uptoBulkAll r
def uptoBulkEntries {H : Type} : List (Lit × DataW H) → Nat
  | [] => 0
  | x :: r => uptoBulkEntry x + uptoBulkEntries r
def uptoBulkEntry {H : Type} : Lit × DataW H → Nat
  | (.string bytes, d) => bytes.length + uptoBulk d + 1
  | (_, d) => uptoBulk d + 1
 end
def uptoSmall : (H : Type) → List (DataW H) → Bool := fun _ ds => decide (uptoBulkAll ds ≤ 1048576)
def OpenSpec.upto (s : _root_.Go.ChangeSpec) : _root_.Go.OpenSpec := { _root_.Go.OpenSpec.ofChange s with cond := some uptoSmall }

/-- 'laws.FnSets', WHERE WHAT IT READS IS OF BULK AT MOST 1048576: true; the input reads as it did. -/
def fnSetsUptoRow : OpenClaim := { program := "ytinegehejinmiaa", sum := "79026721ec872113c61856ed74668b9f593518eabc9f8b7e6efd5375bb740672", func := "loop.example/g00490/laws.FnSets", spec := "fnSets", unfollowed := true, recurses := true, apart := false, narrowed := true }
def FnSetsUptoSaid : Prop := fnSetsUptoRow.holds Try.pinned (OpenSpec.upto fnSetsSpec)

/-- 'laws.FnPrints', WHERE WHAT IT READS IS OF BULK AT MOST 1048576: true; the input reads as it did. -/
def fnPrintsUptoRow : OpenClaim := { program := "ytinegehejinmiaa", sum := "79026721ec872113c61856ed74668b9f593518eabc9f8b7e6efd5375bb740672", func := "loop.example/g00490/laws.FnPrints", spec := "fnPrints", inPlace := ["internal/abi.NoEscape", "internal/bytealg.MakeNoZero", "internal/bytealg.IndexByteString", "internal/bytealg.IndexString"], unfollowed := true, recurses := true, named := ["internal/bytealg.MaxLen"], apart := false, narrowed := true }
def FnPrintsUptoSaid : Prop := fnPrintsUptoRow.holds Try.pinned (OpenSpec.upto fnPrintsSpec)

/-- 'laws.FnMerges', WHERE WHAT IT READS IS OF BULK AT MOST 1048576: true; the input reads as it did. -/
def fnMergesUptoRow : OpenClaim := { program := "ytinegehejinmiaa", sum := "79026721ec872113c61856ed74668b9f593518eabc9f8b7e6efd5375bb740672", func := "loop.example/g00490/laws.FnMerges", spec := "fnMerges", unfollowed := true, recurses := true, apart := false, narrowed := true }
def FnMergesUptoSaid : Prop := fnMergesUptoRow.holds Try.pinned (OpenSpec.upto fnMergesSpec)

/-- 'laws.FnExactSortSet', WHERE WHAT IT READS IS OF BULK AT MOST 1048576: true; the input reads as it did. -/
def fnExactSortSetUptoRow : OpenClaim := { program := "ytinegehejinmiaa", sum := "79026721ec872113c61856ed74668b9f593518eabc9f8b7e6efd5375bb740672", func := "loop.example/g00490/laws.FnExactSortSet", spec := "fnExactSortSet", unfollowed := true, recurses := true, apart := false, narrowed := true }
def FnExactSortSetUptoSaid : Prop := fnExactSortSetUptoRow.holds Try.pinned (OpenSpec.upto fnExactSortSetSpec)

/-- 'laws.FnExactAlarmOk', WHERE WHAT IT READS IS OF BULK AT MOST 1048576: true; the input reads as it did. -/
def fnExactAlarmOkUptoRow : OpenClaim := { program := "ytinegehejinmiaa", sum := "79026721ec872113c61856ed74668b9f593518eabc9f8b7e6efd5375bb740672", func := "loop.example/g00490/laws.FnExactAlarmOk", spec := "fnExactAlarmOk", unfollowed := true, recurses := true, apart := false, narrowed := true }
def FnExactAlarmOkUptoSaid : Prop := fnExactAlarmOkUptoRow.holds Try.pinned (OpenSpec.upto fnExactAlarmOkSpec)

end Rows
end Go.Proofs.Ytinegehejinmiaa
