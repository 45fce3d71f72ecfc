/-
  No cell of these rows narrows 'for every input' (looked for: loops, veiled, ifaces, maps, wideKeys, modest, calm, conditions, laid).
  DERIVED. THE GIVEN ROWS OF THIS SEAT. 4 by the template 'for every input the law returns true; each argument reads behind the call as it read before'; 0 by the template 'total and deterministic' (their statements: YtcopckbpflmmeabTotals.lean).
  GIVEN WITH THE SEED: the statements are not yours to turn. If you find one false, say at which input.
  Laid BY PROGRAM, IN A SANDBOX (cutbox-rows.mjs): the forced cells as the released guide's own fill.sh prints them over the translation a4282f16a13be19e… (all of the seat's roots in one cut). By AI agents, Wed Nov 11 2026. No macro, syntax, notation, axiom, sorry.
-/
import Derived.Test.YtcopckbpflmmeabChecked
import GoSem.Claim
import GoSem.ClaimJoined
import GoSem.ClaimMapViews
import Derived.JoinedTies
import Derived.KernelRfl
namespace Go.Proofs.Ytcopckbpflmmeab
/- THE CELL 'sum', in the pinned program and in every row, IS THE sha256 OF THE DUMP (.gsa) THAT YtcopckbpflmmeabProg.lean LOADS. Nothing in Lean hashes anything: it is a label: what it is worth is what the hold of that sum in a sandbox is worth. -/
noncomputable def Try.pinned : Pinned := { name := "ytcopckbpflmmeab", sum := "a4282f16a13be19e726c49bb6bdc1473f0878cd9df136a5f8233c74458c0c52b", checked := Try.checked }
namespace Rows
def none {H : Type} : Left H := { results := [], args := [] }

/-- 'laws.FnExactSweepIn': WHATEVER THE INPUT: true; the input reads as it did. -/
def fnExactSweepInSpec : ChangeSpec := { name := "fnExactSweepIn", fn := fun _ => fun
  | [d1, d2] => { results := [.lit (.bool true)], args := [d1, d2] }
  | _ => none }
def fnExactSweepInRow : OpenClaim := { program := "ytcopckbpflmmeab", sum := "a4282f16a13be19e726c49bb6bdc1473f0878cd9df136a5f8233c74458c0c52b", func := "loop.example/g00490/laws.FnExactSweepIn", spec := "fnExactSweepIn", unfollowed := true, recurses := true, plainKeys := false, apart := false }
def FnExactSweepInSaid : Prop := fnExactSweepInRow.holds Try.pinned (OpenSpec.ofChange fnExactSweepInSpec)

/-- ITS FALSE NEIGHBOUR: 'it returns false'. Refute it at one input. -/
def fnExactSweepInWrong : ChangeSpec := { name := "fnExactSweepIn", fn := fun _ => fun
  | [d1, d2] => { results := [.lit (.bool false)], args := [d1, d2] }
  | _ => none }
def FnExactSweepInWrongFalsely : Prop := fnExactSweepInRow.holds Try.pinned (OpenSpec.ofChange fnExactSweepInWrong)

/-- 'laws.FnExactAlarmsIn': WHATEVER THE INPUT: true; the input reads as it did. -/
def fnExactAlarmsInSpec : ChangeSpec := { name := "fnExactAlarmsIn", fn := fun _ => fun
  | [d] => { results := [.lit (.bool true)], args := [d] }
  | _ => none }
def fnExactAlarmsInRow : OpenClaim := { program := "ytcopckbpflmmeab", sum := "a4282f16a13be19e726c49bb6bdc1473f0878cd9df136a5f8233c74458c0c52b", func := "loop.example/g00490/laws.FnExactAlarmsIn", spec := "fnExactAlarmsIn", plainKeys := false, apart := false }
def FnExactAlarmsInSaid : Prop := fnExactAlarmsInRow.holds Try.pinned (OpenSpec.ofChange fnExactAlarmsInSpec)

/-- ITS FALSE NEIGHBOUR: 'it returns false'. Refute it at one input. -/
def fnExactAlarmsInWrong : ChangeSpec := { name := "fnExactAlarmsIn", fn := fun _ => fun
  | [d] => { results := [.lit (.bool false)], args := [d] }
  | _ => none }
def FnExactAlarmsInWrongFalsely : Prop := fnExactAlarmsInRow.holds Try.pinned (OpenSpec.ofChange fnExactAlarmsInWrong)

/-- 'laws.FnExactStoreNew': WHATEVER THE INPUT: true; the input reads as it did. -/
def fnExactStoreNewSpec : ChangeSpec := { name := "fnExactStoreNew", fn := fun _ => fun
  | [d] => { results := [.lit (.bool true)], args := [d] }
  | _ => none }
def fnExactStoreNewRow : OpenClaim := { program := "ytcopckbpflmmeab", sum := "a4282f16a13be19e726c49bb6bdc1473f0878cd9df136a5f8233c74458c0c52b", func := "loop.example/g00490/laws.FnExactStoreNew", spec := "fnExactStoreNew", plainKeys := false, apart := false }
def FnExactStoreNewSaid : Prop := fnExactStoreNewRow.holds Try.pinned (OpenSpec.ofChange fnExactStoreNewSpec)

/-- ITS FALSE NEIGHBOUR: 'it returns false'. Refute it at one input. -/
def fnExactStoreNewWrong : ChangeSpec := { name := "fnExactStoreNew", fn := fun _ => fun
  | [d] => { results := [.lit (.bool false)], args := [d] }
  | _ => none }
def FnExactStoreNewWrongFalsely : Prop := fnExactStoreNewRow.holds Try.pinned (OpenSpec.ofChange fnExactStoreNewWrong)

/-- 'laws.FnExactAllAlarms': WHATEVER THE INPUT: true; the input reads as it did. -/
def fnExactAllAlarmsSpec : ChangeSpec := { name := "fnExactAllAlarms", fn := fun _ => fun
  | [d] => { results := [.lit (.bool true)], args := [d] }
  | _ => none }
def fnExactAllAlarmsRow : OpenClaim := { program := "ytcopckbpflmmeab", sum := "a4282f16a13be19e726c49bb6bdc1473f0878cd9df136a5f8233c74458c0c52b", func := "loop.example/g00490/laws.FnExactAllAlarms", spec := "fnExactAllAlarms", unfollowed := true, recurses := true, plainKeys := false, apart := false }
def FnExactAllAlarmsSaid : Prop := fnExactAllAlarmsRow.holds Try.pinned (OpenSpec.ofChange fnExactAllAlarmsSpec)

/-- ITS FALSE NEIGHBOUR: 'it returns false'. Refute it at one input. -/
def fnExactAllAlarmsWrong : ChangeSpec := { name := "fnExactAllAlarms", fn := fun _ => fun
  | [d] => { results := [.lit (.bool false)], args := [d] }
  | _ => none }
def FnExactAllAlarmsWrongFalsely : Prop := fnExactAllAlarmsRow.holds Try.pinned (OpenSpec.ofChange fnExactAllAlarmsWrong)

/- THE SECOND FORM. 'bulk': how many values and letters a reading holds, each counted each time it is reached (what is shared counts as often as it is met; a slice's spare places count too). A statement '..UptoSaid' is the law's where the arguments, and the package variables that the reading takes, are together of bulk at most 1048576: NARROWER than '..Said'. Prove '..Said' where nothing that the law and all that it calls make is longer than what came in: it says more and counts as full. Else prove '..UptoSaid'. A law counts once. -/
mutual
def uptoBulk {H : Type} : DataW H → Nat
  | .lit (.string bytes) => bytes.length + 1
  | .lit _ => 1
  | .nil => 1
  | .ptr d => uptoBulk d + 1
  | .slice elems spare => uptoBulkAll elems + uptoBulkAll spare + 1
  | .agg parts => uptoBulkAll parts + 1
  | .iface _ d => uptoBulk d + 1
  | .map entries => uptoBulkEntries entries + 1
  | .held _ => 1
def uptoBulkAll {H : Type} : List (DataW H) → Nat
  | [] => 0
  | d :: r => uptoBulk d + uptoBulkAll r
def uptoBulkEntries {H : Type} : List (Lit × DataW H) → Nat
  | [] => 0
  | x :: r => uptoBulkEntry x + uptoBulkEntries r
def uptoBulkEntry {H : Type} : Lit × DataW H → Nat
  | (.string bytes, d) => bytes.length + uptoBulk d + 1
  | (_, d) => uptoBulk d + 1
 end
def uptoSmall : (H : Type) → List (DataW H) → Bool := fun _ ds => decide (uptoBulkAll ds ≤ 1048576)
def OpenSpec.upto (s : _root_.Go.ChangeSpec) : _root_.Go.OpenSpec := { _root_.Go.OpenSpec.ofChange s with cond := some uptoSmall }

/-- 'laws.FnExactSweepIn', WHERE WHAT IT READS IS OF BULK AT MOST 1048576: true; the input reads as it did. -/
def fnExactSweepInUptoRow : OpenClaim := { program := "ytcopckbpflmmeab", sum := "a4282f16a13be19e726c49bb6bdc1473f0878cd9df136a5f8233c74458c0c52b", func := "loop.example/g00490/laws.FnExactSweepIn", spec := "fnExactSweepIn", unfollowed := true, recurses := true, plainKeys := false, apart := false, narrowed := true }
def FnExactSweepInUptoSaid : Prop := fnExactSweepInUptoRow.holds Try.pinned (OpenSpec.upto fnExactSweepInSpec)

/-- 'laws.FnExactAlarmsIn', WHERE WHAT IT READS IS OF BULK AT MOST 1048576: true; the input reads as it did. -/
def fnExactAlarmsInUptoRow : OpenClaim := { program := "ytcopckbpflmmeab", sum := "a4282f16a13be19e726c49bb6bdc1473f0878cd9df136a5f8233c74458c0c52b", func := "loop.example/g00490/laws.FnExactAlarmsIn", spec := "fnExactAlarmsIn", plainKeys := false, apart := false, narrowed := true }
def FnExactAlarmsInUptoSaid : Prop := fnExactAlarmsInUptoRow.holds Try.pinned (OpenSpec.upto fnExactAlarmsInSpec)

/-- 'laws.FnExactStoreNew', WHERE WHAT IT READS IS OF BULK AT MOST 1048576: true; the input reads as it did. -/
def fnExactStoreNewUptoRow : OpenClaim := { program := "ytcopckbpflmmeab", sum := "a4282f16a13be19e726c49bb6bdc1473f0878cd9df136a5f8233c74458c0c52b", func := "loop.example/g00490/laws.FnExactStoreNew", spec := "fnExactStoreNew", plainKeys := false, apart := false, narrowed := true }
def FnExactStoreNewUptoSaid : Prop := fnExactStoreNewUptoRow.holds Try.pinned (OpenSpec.upto fnExactStoreNewSpec)

/-- 'laws.FnExactAllAlarms', WHERE WHAT IT READS IS OF BULK AT MOST 1048576: true; the input reads as it did. -/
def fnExactAllAlarmsUptoRow : OpenClaim := { program := "ytcopckbpflmmeab", sum := "a4282f16a13be19e726c49bb6bdc1473f0878cd9df136a5f8233c74458c0c52b", func := "loop.example/g00490/laws.FnExactAllAlarms", spec := "fnExactAllAlarms", unfollowed := true, recurses := true, plainKeys := false, apart := false, narrowed := true }
def FnExactAllAlarmsUptoSaid : Prop := fnExactAllAlarmsUptoRow.holds Try.pinned (OpenSpec.upto fnExactAllAlarmsSpec)

end Rows
end Go.Proofs.Ytcopckbpflmmeab
