/-
  No cell of these rows narrows 'for every input' (looked for: loops, veiled, ifaces, maps, wideKeys, modest, calm, conditions, laid).
  DERIVED. THE GIVEN ROWS OF THIS SEAT. 4 by the template 'for every input the law returns true; each argument reads behind the call as it read before'; 0 by the template 'total and deterministic' (their statements: YtooninmicfcfoaaGreatTotals.lean).
  GIVEN WITH THE SEED: the statements are not yours to turn. If you find one false, say at which input.
  Laid BY PROGRAM, IN A SANDBOX (cutbox-rows.mjs): the forced cells as the released guide's own fill.sh prints them over the translation c79c47bb22c9ac1d… (all of the seat's roots in one cut). By AI agents, Wed Nov 11 2026. No macro, syntax, notation, axiom, sorry.
-/
import Derived.Test.YtooninmicfcfoaaGreatChecked
import GoSem.Claim
import GoSem.ClaimJoined
import GoSem.ClaimMapViews
import Derived.JoinedTies
import Derived.KernelRfl
namespace Go.Proofs.YtooninmicfcfoaaGreat
/- THE CELL 'sum', in the pinned program and in every row, IS THE sha256 OF THE DUMP (.gsa) THAT YtooninmicfcfoaaGreatProg.lean LOADS. Nothing in Lean hashes anything: it is a label: what it is worth is what the hold of that sum in a sandbox is worth. -/
noncomputable def Tryz.pinned : Pinned := { name := "ytooninmicfcfoaagreat", sum := "c79c47bb22c9ac1df652a80416278eb4847868a8771cd6e5d3f72ed575385e90", checked := Tryz.checked }
namespace Rows
def none {H : Type} : Left H := { results := [], args := [] }

/-- 'laws.FnParts': WHATEVER THE INPUT: true; the input reads as it did. -/
def fnPartsSpec : ChangeSpec := { name := "fnParts", fn := fun _ => fun
  | [d] => { results := [.lit (.bool true)], args := [d] }
  | _ => none }
def fnPartsRow : OpenClaim := { program := "ytooninmicfcfoaagreat", sum := "c79c47bb22c9ac1df652a80416278eb4847868a8771cd6e5d3f72ed575385e90", func := "loop.example/g00490/laws.FnParts", spec := "fnParts", inPlace := ["internal/abi.NoEscape", "internal/bytealg.MakeNoZero", "slices.overlaps[loop.example/g00490/impl.slot]"], unfollowed := true, recurses := true, plainKeys := false, apart := false }
def FnPartsSaid : Prop := fnPartsRow.holds Tryz.pinned (OpenSpec.ofChange fnPartsSpec)

/-- ITS FALSE NEIGHBOUR: 'it returns false'. Refute it at one input. -/
def fnPartsWrong : ChangeSpec := { name := "fnParts", fn := fun _ => fun
  | [d] => { results := [.lit (.bool false)], args := [d] }
  | _ => none }
def FnPartsWrongFalsely : Prop := fnPartsRow.holds Tryz.pinned (OpenSpec.ofChange fnPartsWrong)

/-- 'laws.FnStores': WHATEVER THE INPUT: true; the input reads as it did. -/
def fnStoresSpec : ChangeSpec := { name := "fnStores", fn := fun _ => fun
  | [d] => { results := [.lit (.bool true)], args := [d] }
  | _ => none }
def fnStoresRow : OpenClaim := { program := "ytooninmicfcfoaagreat", sum := "c79c47bb22c9ac1df652a80416278eb4847868a8771cd6e5d3f72ed575385e90", func := "loop.example/g00490/laws.FnStores", spec := "fnStores", inPlace := ["internal/abi.NoEscape", "internal/bytealg.MakeNoZero", "slices.overlaps[loop.example/g00490/impl.slot]"], unfollowed := true, recurses := true, plainKeys := false, apart := false }
def FnStoresSaid : Prop := fnStoresRow.holds Tryz.pinned (OpenSpec.ofChange fnStoresSpec)

/-- ITS FALSE NEIGHBOUR: 'it returns false'. Refute it at one input. -/
def fnStoresWrong : ChangeSpec := { name := "fnStores", fn := fun _ => fun
  | [d] => { results := [.lit (.bool false)], args := [d] }
  | _ => none }
def FnStoresWrongFalsely : Prop := fnStoresRow.holds Tryz.pinned (OpenSpec.ofChange fnStoresWrong)

/-- 'laws.FnStoresBent': WHATEVER THE INPUT: true; the input reads as it did. -/
def fnStoresBentSpec : ChangeSpec := { name := "fnStoresBent", fn := fun _ => fun
  | [d] => { results := [.lit (.bool true)], args := [d] }
  | _ => none }
def fnStoresBentRow : OpenClaim := { program := "ytooninmicfcfoaagreat", sum := "c79c47bb22c9ac1df652a80416278eb4847868a8771cd6e5d3f72ed575385e90", func := "loop.example/g00490/laws.FnStoresBent", spec := "fnStoresBent", inPlace := ["internal/abi.NoEscape", "internal/bytealg.MakeNoZero", "slices.overlaps[loop.example/g00490/impl.slot]"], unfollowed := true, recurses := true, plainKeys := false, apart := false }
def FnStoresBentSaid : Prop := fnStoresBentRow.holds Tryz.pinned (OpenSpec.ofChange fnStoresBentSpec)

/-- ITS FALSE NEIGHBOUR: 'it returns false'. Refute it at one input. -/
def fnStoresBentWrong : ChangeSpec := { name := "fnStoresBent", fn := fun _ => fun
  | [d] => { results := [.lit (.bool false)], args := [d] }
  | _ => none }
def FnStoresBentWrongFalsely : Prop := fnStoresBentRow.holds Tryz.pinned (OpenSpec.ofChange fnStoresBentWrong)

/-- 'laws.FnExactPutAlarm': WHATEVER THE INPUT: true; the input reads as it did. -/
def fnExactPutAlarmSpec : ChangeSpec := { name := "fnExactPutAlarm", fn := fun _ => fun
  | [d1, d2] => { results := [.lit (.bool true)], args := [d1, d2] }
  | _ => none }
def fnExactPutAlarmRow : OpenClaim := { program := "ytooninmicfcfoaagreat", sum := "c79c47bb22c9ac1df652a80416278eb4847868a8771cd6e5d3f72ed575385e90", func := "loop.example/g00490/laws.FnExactPutAlarm", spec := "fnExactPutAlarm", inPlace := ["internal/abi.NoEscape", "internal/bytealg.MakeNoZero", "slices.overlaps[loop.example/g00490/impl.slot]"], unfollowed := true, recurses := true, plainKeys := false, apart := false }
def FnExactPutAlarmSaid : Prop := fnExactPutAlarmRow.holds Tryz.pinned (OpenSpec.ofChange fnExactPutAlarmSpec)

/-- ITS FALSE NEIGHBOUR: 'it returns false'. Refute it at one input. -/
def fnExactPutAlarmWrong : ChangeSpec := { name := "fnExactPutAlarm", fn := fun _ => fun
  | [d1, d2] => { results := [.lit (.bool false)], args := [d1, d2] }
  | _ => none }
def FnExactPutAlarmWrongFalsely : Prop := fnExactPutAlarmRow.holds Tryz.pinned (OpenSpec.ofChange fnExactPutAlarmWrong)

/- THE SECOND FORM. 'bulk': how many values and letters a reading holds, each counted each time it is reached (what is shared counts as often as it is met; a slice's spare places count too). A statement '..UptoSaid' is the law's where the arguments, and the package variables that the reading takes, are together of bulk at most 1048576: NARROWER than '..Said'. Prove '..Said' where nothing that the law and all that it calls make is longer than what came in: it says more and counts as full. Else prove '..UptoSaid'. A law counts once. -/
mutual
def uptoBulk {H : Type} : DataW H → Nat
  | .lit (.string bytes) => bytes.length + 1
  | .lit _ => 1
  | .nil => 1
  | .ptr d => uptoBulk d + 1
  | .slice elems spare => uptoBulkAll elems + uptoBulkAll spare + 1
  | .agg parts => uptoBulkAll parts + 1
  | .iface _ d => uptoBulk d + 1
  | .map entries => uptoBulkEntries entries + 1
  | .held _ => 1
def uptoBulkAll {H : Type} : List (DataW H) → Nat
  | [] => 0
  | d :: r => uptoBulk d + uptoBulkAll r
def uptoBulkEntries {H : Type} : List (Lit × DataW H) → Nat
  | [] => 0
  | x :: r => uptoBulkEntry x + uptoBulkEntries r
def uptoBulkEntry {H : Type} : Lit × DataW H → Nat
  | (.string bytes, d) => bytes.length + uptoBulk d + 1
  | (_, d) => uptoBulk d + 1
 end
def uptoSmall : (H : Type) → List (DataW H) → Bool := fun _ ds => decide (uptoBulkAll ds ≤ 1048576)
def OpenSpec.upto (s : _root_.Go.ChangeSpec) : _root_.Go.OpenSpec := { _root_.Go.OpenSpec.ofChange s with cond := some uptoSmall }

/-- 'laws.FnParts', WHERE WHAT IT READS IS OF BULK AT MOST 1048576: true; the input reads as it did. -/
def fnPartsUptoRow : OpenClaim := { program := "ytooninmicfcfoaagreat", sum := "c79c47bb22c9ac1df652a80416278eb4847868a8771cd6e5d3f72ed575385e90", func := "loop.example/g00490/laws.FnParts", spec := "fnParts", inPlace := ["internal/abi.NoEscape", "internal/bytealg.MakeNoZero", "slices.overlaps[loop.example/g00490/impl.slot]"], unfollowed := true, recurses := true, plainKeys := false, apart := false, narrowed := true }
def FnPartsUptoSaid : Prop := fnPartsUptoRow.holds Tryz.pinned (OpenSpec.upto fnPartsSpec)

/-- 'laws.FnStores', WHERE WHAT IT READS IS OF BULK AT MOST 1048576: true; the input reads as it did. -/
def fnStoresUptoRow : OpenClaim := { program := "ytooninmicfcfoaagreat", sum := "c79c47bb22c9ac1df652a80416278eb4847868a8771cd6e5d3f72ed575385e90", func := "loop.example/g00490/laws.FnStores", spec := "fnStores", inPlace := ["internal/abi.NoEscape", "internal/bytealg.MakeNoZero", "slices.overlaps[loop.example/g00490/impl.slot]"], unfollowed := true, recurses := true, plainKeys := false, apart := false, narrowed := true }
def FnStoresUptoSaid : Prop := fnStoresUptoRow.holds Tryz.pinned (OpenSpec.upto fnStoresSpec)

/-- 'laws.FnStoresBent', WHERE WHAT IT READS IS OF BULK AT MOST 1048576: true; the input reads as it did. -/
def fnStoresBentUptoRow : OpenClaim := { program := "ytooninmicfcfoaagreat", sum := "c79c47bb22c9ac1df652a80416278eb4847868a8771cd6e5d3f72ed575385e90", func := "loop.example/g00490/laws.FnStoresBent", spec := "fnStoresBent", inPlace := ["internal/abi.NoEscape", "internal/bytealg.MakeNoZero", "slices.overlaps[loop.example/g00490/impl.slot]"], unfollowed := true, recurses := true, plainKeys := false, apart := false, narrowed := true }
def FnStoresBentUptoSaid : Prop := fnStoresBentUptoRow.holds Tryz.pinned (OpenSpec.upto fnStoresBentSpec)

/-- 'laws.FnExactPutAlarm', WHERE WHAT IT READS IS OF BULK AT MOST 1048576: true; the input reads as it did. -/
def fnExactPutAlarmUptoRow : OpenClaim := { program := "ytooninmicfcfoaagreat", sum := "c79c47bb22c9ac1df652a80416278eb4847868a8771cd6e5d3f72ed575385e90", func := "loop.example/g00490/laws.FnExactPutAlarm", spec := "fnExactPutAlarm", inPlace := ["internal/abi.NoEscape", "internal/bytealg.MakeNoZero", "slices.overlaps[loop.example/g00490/impl.slot]"], unfollowed := true, recurses := true, plainKeys := false, apart := false, narrowed := true }
def FnExactPutAlarmUptoSaid : Prop := fnExactPutAlarmUptoRow.holds Tryz.pinned (OpenSpec.upto fnExactPutAlarmSpec)

end Rows
end Go.Proofs.YtooninmicfcfoaaGreat
