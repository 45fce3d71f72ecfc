/-
  No cell of these rows narrows 'for every input' (looked for: loops, veiled, ifaces, maps, wideKeys, modest, calm, conditions, laid).
  DERIVED. THE GIVEN ROWS OF THIS SEAT. 6 by the template 'for every input the law returns true; each argument reads behind the call as it read before'; 0 by the template 'total and deterministic' (their statements: YtdmhccheaemkkaaTotals.lean).
  GIVEN WITH THE SEED: the statements are not yours to turn. If you find one false, say at which input.
  Laid BY PROGRAM, IN A SANDBOX (cutbox-rows.mjs): the forced cells as the released guide's own fill.sh prints them over the translation 4f09217b9afb1511… (all of the seat's roots in one cut). By AI agents, Wed Nov 11 2026. No macro, syntax, notation, axiom, sorry.
-/
import Derived.Test.YtdmhccheaemkkaaChecked
import GoSem.Claim
import GoSem.ClaimJoined
import GoSem.ClaimMapViews
import Derived.JoinedTies
import Derived.KernelRfl
namespace Go.Proofs.Ytdmhccheaemkkaa
/- THE CELL 'sum', in the pinned program and in every row, IS THE sha256 OF THE DUMP (.gsa) THAT YtdmhccheaemkkaaProg.lean LOADS. Nothing in Lean hashes anything: it is a label: what it is worth is what the hold of that sum in a sandbox is worth. -/
noncomputable def Try.pinned : Pinned := { name := "ytdmhccheaemkkaa", sum := "4f09217b9afb1511f674710e309d81e6b927e3ceec4e8afa713d49d4811960da", checked := Try.checked }
namespace Rows
def none {H : Type} : Left H := { results := [], args := [] }

/-- 'laws.FnSubs': WHATEVER THE INPUT: true; the input reads as it did. -/
def fnSubsSpec : ChangeSpec := { name := "fnSubs", fn := fun _ => fun
  | [d] => { results := [.lit (.bool true)], args := [d] }
  | _ => none }
def fnSubsRow : OpenClaim := { program := "ytdmhccheaemkkaa", sum := "4f09217b9afb1511f674710e309d81e6b927e3ceec4e8afa713d49d4811960da", func := "loop.example/g00490/laws.FnSubs", spec := "fnSubs", unfollowed := true, recurses := true, apart := false }
def FnSubsSaid : Prop := fnSubsRow.holds Try.pinned (OpenSpec.ofChange fnSubsSpec)

/-- ITS FALSE NEIGHBOUR: 'it returns false'. Refute it at one input. -/
def fnSubsWrong : ChangeSpec := { name := "fnSubs", fn := fun _ => fun
  | [d] => { results := [.lit (.bool false)], args := [d] }
  | _ => none }
def FnSubsWrongFalsely : Prop := fnSubsRow.holds Try.pinned (OpenSpec.ofChange fnSubsWrong)

/-- 'laws.FnHeards': WHATEVER THE INPUT: true; the input reads as it did. -/
def fnHeardsSpec : ChangeSpec := { name := "fnHeards", fn := fun _ => fun
  | [d] => { results := [.lit (.bool true)], args := [d] }
  | _ => none }
def fnHeardsRow : OpenClaim := { program := "ytdmhccheaemkkaa", sum := "4f09217b9afb1511f674710e309d81e6b927e3ceec4e8afa713d49d4811960da", func := "loop.example/g00490/laws.FnHeards", spec := "fnHeards", unfollowed := true, recurses := true, apart := false }
def FnHeardsSaid : Prop := fnHeardsRow.holds Try.pinned (OpenSpec.ofChange fnHeardsSpec)

/-- ITS FALSE NEIGHBOUR: 'it returns false'. Refute it at one input. -/
def fnHeardsWrong : ChangeSpec := { name := "fnHeards", fn := fun _ => fun
  | [d] => { results := [.lit (.bool false)], args := [d] }
  | _ => none }
def FnHeardsWrongFalsely : Prop := fnHeardsRow.holds Try.pinned (OpenSpec.ofChange fnHeardsWrong)

/-- 'laws.FnExactSubOk': WHATEVER THE INPUT: true; the input reads as it did. -/
def fnExactSubOkSpec : ChangeSpec := { name := "fnExactSubOk", fn := fun _ => fun
  | [d] => { results := [.lit (.bool true)], args := [d] }
  | _ => none }
def fnExactSubOkRow : OpenClaim := { program := "ytdmhccheaemkkaa", sum := "4f09217b9afb1511f674710e309d81e6b927e3ceec4e8afa713d49d4811960da", func := "loop.example/g00490/laws.FnExactSubOk", spec := "fnExactSubOk", unfollowed := true, recurses := true, apart := false }
def FnExactSubOkSaid : Prop := fnExactSubOkRow.holds Try.pinned (OpenSpec.ofChange fnExactSubOkSpec)

/-- ITS FALSE NEIGHBOUR: 'it returns false'. Refute it at one input. -/
def fnExactSubOkWrong : ChangeSpec := { name := "fnExactSubOk", fn := fun _ => fun
  | [d] => { results := [.lit (.bool false)], args := [d] }
  | _ => none }
def FnExactSubOkWrongFalsely : Prop := fnExactSubOkRow.holds Try.pinned (OpenSpec.ofChange fnExactSubOkWrong)

/-- 'laws.FnExactSameSub': WHATEVER THE INPUT: true; the input reads as it did. -/
def fnExactSameSubSpec : ChangeSpec := { name := "fnExactSameSub", fn := fun _ => fun
  | [d1, d2] => { results := [.lit (.bool true)], args := [d1, d2] }
  | _ => none }
def fnExactSameSubRow : OpenClaim := { program := "ytdmhccheaemkkaa", sum := "4f09217b9afb1511f674710e309d81e6b927e3ceec4e8afa713d49d4811960da", func := "loop.example/g00490/laws.FnExactSameSub", spec := "fnExactSameSub", unfollowed := true, recurses := true, apart := false }
def FnExactSameSubSaid : Prop := fnExactSameSubRow.holds Try.pinned (OpenSpec.ofChange fnExactSameSubSpec)

/-- ITS FALSE NEIGHBOUR: 'it returns false'. Refute it at one input. -/
def fnExactSameSubWrong : ChangeSpec := { name := "fnExactSameSub", fn := fun _ => fun
  | [d1, d2] => { results := [.lit (.bool false)], args := [d1, d2] }
  | _ => none }
def FnExactSameSubWrongFalsely : Prop := fnExactSameSubRow.holds Try.pinned (OpenSpec.ofChange fnExactSameSubWrong)

/-- 'laws.FnExactTell': WHATEVER THE INPUT: true; the input reads as it did. -/
def fnExactTellSpec : ChangeSpec := { name := "fnExactTell", fn := fun _ => fun
  | [d1, d2] => { results := [.lit (.bool true)], args := [d1, d2] }
  | _ => none }
def fnExactTellRow : OpenClaim := { program := "ytdmhccheaemkkaa", sum := "4f09217b9afb1511f674710e309d81e6b927e3ceec4e8afa713d49d4811960da", func := "loop.example/g00490/laws.FnExactTell", spec := "fnExactTell", apart := false }
def FnExactTellSaid : Prop := fnExactTellRow.holds Try.pinned (OpenSpec.ofChange fnExactTellSpec)

/-- ITS FALSE NEIGHBOUR: 'it returns false'. Refute it at one input. -/
def fnExactTellWrong : ChangeSpec := { name := "fnExactTell", fn := fun _ => fun
  | [d1, d2] => { results := [.lit (.bool false)], args := [d1, d2] }
  | _ => none }
def FnExactTellWrongFalsely : Prop := fnExactTellRow.holds Try.pinned (OpenSpec.ofChange fnExactTellWrong)

/-- 'laws.FnExactHear': WHATEVER THE INPUT: true; the input reads as it did. -/
def fnExactHearSpec : ChangeSpec := { name := "fnExactHear", fn := fun _ => fun
  | [d] => { results := [.lit (.bool true)], args := [d] }
  | _ => none }
def fnExactHearRow : OpenClaim := { program := "ytdmhccheaemkkaa", sum := "4f09217b9afb1511f674710e309d81e6b927e3ceec4e8afa713d49d4811960da", func := "loop.example/g00490/laws.FnExactHear", spec := "fnExactHear", apart := false }
def FnExactHearSaid : Prop := fnExactHearRow.holds Try.pinned (OpenSpec.ofChange fnExactHearSpec)

/-- ITS FALSE NEIGHBOUR: 'it returns false'. Refute it at one input. -/
def fnExactHearWrong : ChangeSpec := { name := "fnExactHear", fn := fun _ => fun
  | [d] => { results := [.lit (.bool false)], args := [d] }
  | _ => none }
def FnExactHearWrongFalsely : Prop := fnExactHearRow.holds Try.pinned (OpenSpec.ofChange fnExactHearWrong)

/- THE SECOND FORM. 'bulk': how many values and letters a reading holds, each counted each time it is reached (what is shared counts as often as it is met; a slice's spare places count too). A statement '..UptoSaid' is the law's where the arguments, and the package variables that the reading takes, are together of bulk at most 1048576: NARROWER than '..Said'. Prove '..Said' where nothing that the law and all that it calls make is longer than what came in: it says more and counts as full. Else prove '..UptoSaid'. A law counts once. -/
mutual
def uptoBulk {H : Type} : DataW H → Nat
  | .lit (.string bytes) => bytes.length + 1
  | .lit _ => 1
  | .nil => 1
  | .ptr d => uptoBulk d + 1
  | .slice elems spare => uptoBulkAll elems + uptoBulkAll spare + 1
  | .agg parts => uptoBulkAll parts + 1
  | .iface _ d => uptoBulk d + 1
  | .map entries => uptoBulkEntries entries + 1
  | .held _ => 1
def uptoBulkAll {H : Type} : List (DataW H) → Nat
  | [] => 0
  | d :: r => uptoBulk d + uptoBulkAll r
def uptoBulkEntries {H : Type} : List (Lit × DataW H) → Nat
  | [] => 0
  | x :: r => uptoBulkEntry x + uptoBulkEntries r
def uptoBulkEntry {H : Type} : Lit × DataW H → Nat
  | (.string bytes, d) => bytes.length + uptoBulk d + 1
  | (_, d) => uptoBulk d + 1
 end
def uptoSmall : (H : Type) → List (DataW H) → Bool := fun _ ds => decide (uptoBulkAll ds ≤ 1048576)
def OpenSpec.upto (s : _root_.Go.ChangeSpec) : _root_.Go.OpenSpec := { _root_.Go.OpenSpec.ofChange s with cond := some uptoSmall }

/-- 'laws.FnSubs', WHERE WHAT IT READS IS OF BULK AT MOST 1048576: true; the input reads as it did. -/
def fnSubsUptoRow : OpenClaim := { program := "ytdmhccheaemkkaa", sum := "4f09217b9afb1511f674710e309d81e6b927e3ceec4e8afa713d49d4811960da", func := "loop.example/g00490/laws.FnSubs", spec := "fnSubs", unfollowed := true, recurses := true, apart := false, narrowed := true }
def FnSubsUptoSaid : Prop := fnSubsUptoRow.holds Try.pinned (OpenSpec.upto fnSubsSpec)

/-- 'laws.FnHeards', WHERE WHAT IT READS IS OF BULK AT MOST 1048576: true; the input reads as it did. -/
def fnHeardsUptoRow : OpenClaim := { program := "ytdmhccheaemkkaa", sum := "4f09217b9afb1511f674710e309d81e6b927e3ceec4e8afa713d49d4811960da", func := "loop.example/g00490/laws.FnHeards", spec := "fnHeards", unfollowed := true, recurses := true, apart := false, narrowed := true }
def FnHeardsUptoSaid : Prop := fnHeardsUptoRow.holds Try.pinned (OpenSpec.upto fnHeardsSpec)

/-- 'laws.FnExactSubOk', WHERE WHAT IT READS IS OF BULK AT MOST 1048576: true; the input reads as it did. -/
def fnExactSubOkUptoRow : OpenClaim := { program := "ytdmhccheaemkkaa", sum := "4f09217b9afb1511f674710e309d81e6b927e3ceec4e8afa713d49d4811960da", func := "loop.example/g00490/laws.FnExactSubOk", spec := "fnExactSubOk", unfollowed := true, recurses := true, apart := false, narrowed := true }
def FnExactSubOkUptoSaid : Prop := fnExactSubOkUptoRow.holds Try.pinned (OpenSpec.upto fnExactSubOkSpec)

/-- 'laws.FnExactSameSub', WHERE WHAT IT READS IS OF BULK AT MOST 1048576: true; the input reads as it did. -/
def fnExactSameSubUptoRow : OpenClaim := { program := "ytdmhccheaemkkaa", sum := "4f09217b9afb1511f674710e309d81e6b927e3ceec4e8afa713d49d4811960da", func := "loop.example/g00490/laws.FnExactSameSub", spec := "fnExactSameSub", unfollowed := true, recurses := true, apart := false, narrowed := true }
def FnExactSameSubUptoSaid : Prop := fnExactSameSubUptoRow.holds Try.pinned (OpenSpec.upto fnExactSameSubSpec)

/-- 'laws.FnExactTell', WHERE WHAT IT READS IS OF BULK AT MOST 1048576: true; the input reads as it did. -/
def fnExactTellUptoRow : OpenClaim := { program := "ytdmhccheaemkkaa", sum := "4f09217b9afb1511f674710e309d81e6b927e3ceec4e8afa713d49d4811960da", func := "loop.example/g00490/laws.FnExactTell", spec := "fnExactTell", apart := false, narrowed := true }
def FnExactTellUptoSaid : Prop := fnExactTellUptoRow.holds Try.pinned (OpenSpec.upto fnExactTellSpec)

/-- 'laws.FnExactHear', WHERE WHAT IT READS IS OF BULK AT MOST 1048576: true; the input reads as it did. -/
def fnExactHearUptoRow : OpenClaim := { program := "ytdmhccheaemkkaa", sum := "4f09217b9afb1511f674710e309d81e6b927e3ceec4e8afa713d49d4811960da", func := "loop.example/g00490/laws.FnExactHear", spec := "fnExactHear", apart := false, narrowed := true }
def FnExactHearUptoSaid : Prop := fnExactHearUptoRow.holds Try.pinned (OpenSpec.upto fnExactHearSpec)

end Rows
end Go.Proofs.Ytdmhccheaemkkaa
