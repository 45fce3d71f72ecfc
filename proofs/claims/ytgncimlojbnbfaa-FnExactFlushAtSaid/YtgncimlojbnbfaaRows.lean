/-
  No cell of these rows narrows 'for every input' (looked for: loops, veiled, ifaces, maps, wideKeys, modest, calm, conditions, laid).
  DERIVED. THE GIVEN ROWS OF THIS SEAT. 5 by the template 'for every input the law returns true; each argument reads behind the call as it read before'; 0 by the template 'total and deterministic' (their statements: YtgncimlojbnbfaaTotals.lean).
  GIVEN WITH THE SEED: the statements are not yours to turn. If you find one false, say at which input.
  Laid BY PROGRAM, IN A SANDBOX (cutbox-rows.mjs): the forced cells as the released guide's own fill.sh prints them over the translation a9d0dc70f6379815… (all of the seat's roots in one cut). By AI agents, Wed Nov 11 2026. No macro, syntax, notation, axiom, sorry.
-/
import Derived.Test.YtgncimlojbnbfaaChecked
import GoSem.Claim
import GoSem.ClaimJoined
import GoSem.ClaimMapViews
import Derived.JoinedTies
import Derived.KernelRfl
namespace Go.Proofs.Ytgncimlojbnbfaa
/- THE CELL 'sum', in the pinned program and in every row, IS THE sha256 OF THE DUMP (.gsa) THAT YtgncimlojbnbfaaProg.lean LOADS. Nothing in Lean hashes anything: it is a label: what it is worth is what the hold of that sum in a sandbox is worth. -/
noncomputable def Try.pinned : Pinned := { name := "ytgncimlojbnbfaa", sum := "a9d0dc70f63798152a20130d2dfbb211dbbc6d3e141f410537cae36ff5e68de6", checked := Try.checked }
namespace Rows
def none {H : Type} : Left H := { results := [], args := [] }

/-- 'laws.FnExactGroupsOk': WHATEVER THE INPUT: true; the input reads as it did. -/
def fnExactGroupsOkSpec : ChangeSpec := { name := "fnExactGroupsOk", fn := fun _ => fun
  | [d1, d2] => { results := [.lit (.bool true)], args := [d1, d2] }
  | _ => none }
def fnExactGroupsOkRow : OpenClaim := { program := "ytgncimlojbnbfaa", sum := "a9d0dc70f63798152a20130d2dfbb211dbbc6d3e141f410537cae36ff5e68de6", func := "loop.example/g00490/laws.FnExactGroupsOk", spec := "fnExactGroupsOk", unfollowed := true, recurses := true, apart := false }
def FnExactGroupsOkSaid : Prop := fnExactGroupsOkRow.holds Try.pinned (OpenSpec.ofChange fnExactGroupsOkSpec)

/-- ITS FALSE NEIGHBOUR: 'it returns false'. Refute it at one input. -/
def fnExactGroupsOkWrong : ChangeSpec := { name := "fnExactGroupsOk", fn := fun _ => fun
  | [d1, d2] => { results := [.lit (.bool false)], args := [d1, d2] }
  | _ => none }
def FnExactGroupsOkWrongFalsely : Prop := fnExactGroupsOkRow.holds Try.pinned (OpenSpec.ofChange fnExactGroupsOkWrong)

/-- 'laws.FnExactGroupOf': WHATEVER THE INPUT: true; the input reads as it did. -/
def fnExactGroupOfSpec : ChangeSpec := { name := "fnExactGroupOf", fn := fun _ => fun
  | [d1, d2] => { results := [.lit (.bool true)], args := [d1, d2] }
  | _ => none }
def fnExactGroupOfRow : OpenClaim := { program := "ytgncimlojbnbfaa", sum := "a9d0dc70f63798152a20130d2dfbb211dbbc6d3e141f410537cae36ff5e68de6", func := "loop.example/g00490/laws.FnExactGroupOf", spec := "fnExactGroupOf", unfollowed := true, recurses := true, apart := false }
def FnExactGroupOfSaid : Prop := fnExactGroupOfRow.holds Try.pinned (OpenSpec.ofChange fnExactGroupOfSpec)

/-- ITS FALSE NEIGHBOUR: 'it returns false'. Refute it at one input. -/
def fnExactGroupOfWrong : ChangeSpec := { name := "fnExactGroupOf", fn := fun _ => fun
  | [d1, d2] => { results := [.lit (.bool false)], args := [d1, d2] }
  | _ => none }
def FnExactGroupOfWrongFalsely : Prop := fnExactGroupOfRow.holds Try.pinned (OpenSpec.ofChange fnExactGroupOfWrong)

/-- 'laws.FnExactGroupAt': WHATEVER THE INPUT: true; the input reads as it did. -/
def fnExactGroupAtSpec : ChangeSpec := { name := "fnExactGroupAt", fn := fun _ => fun
  | [d1, d2] => { results := [.lit (.bool true)], args := [d1, d2] }
  | _ => none }
def fnExactGroupAtRow : OpenClaim := { program := "ytgncimlojbnbfaa", sum := "a9d0dc70f63798152a20130d2dfbb211dbbc6d3e141f410537cae36ff5e68de6", func := "loop.example/g00490/laws.FnExactGroupAt", spec := "fnExactGroupAt", unfollowed := true, recurses := true, apart := false }
def FnExactGroupAtSaid : Prop := fnExactGroupAtRow.holds Try.pinned (OpenSpec.ofChange fnExactGroupAtSpec)

/-- ITS FALSE NEIGHBOUR: 'it returns false'. Refute it at one input. -/
def fnExactGroupAtWrong : ChangeSpec := { name := "fnExactGroupAt", fn := fun _ => fun
  | [d1, d2] => { results := [.lit (.bool false)], args := [d1, d2] }
  | _ => none }
def FnExactGroupAtWrongFalsely : Prop := fnExactGroupAtRow.holds Try.pinned (OpenSpec.ofChange fnExactGroupAtWrong)

/-- 'laws.FnExactJoinAll': WHATEVER THE INPUT: true; the input reads as it did. -/
def fnExactJoinAllSpec : ChangeSpec := { name := "fnExactJoinAll", fn := fun _ => fun
  | [d1, d2, d3, d4, d5] => { results := [.lit (.bool true)], args := [d1, d2, d3, d4, d5] }
  | _ => none }
def fnExactJoinAllRow : OpenClaim := { program := "ytgncimlojbnbfaa", sum := "a9d0dc70f63798152a20130d2dfbb211dbbc6d3e141f410537cae36ff5e68de6", func := "loop.example/g00490/laws.FnExactJoinAll", spec := "fnExactJoinAll", unfollowed := true, recurses := true, apart := false }
def FnExactJoinAllSaid : Prop := fnExactJoinAllRow.holds Try.pinned (OpenSpec.ofChange fnExactJoinAllSpec)

/-- ITS FALSE NEIGHBOUR: 'it returns false'. Refute it at one input. -/
def fnExactJoinAllWrong : ChangeSpec := { name := "fnExactJoinAll", fn := fun _ => fun
  | [d1, d2, d3, d4, d5] => { results := [.lit (.bool false)], args := [d1, d2, d3, d4, d5] }
  | _ => none }
def FnExactJoinAllWrongFalsely : Prop := fnExactJoinAllRow.holds Try.pinned (OpenSpec.ofChange fnExactJoinAllWrong)

/-- 'laws.FnExactFlushAt': WHATEVER THE INPUT: true; the input reads as it did. -/
def fnExactFlushAtSpec : ChangeSpec := { name := "fnExactFlushAt", fn := fun _ => fun
  | [d1, d2, d3] => { results := [.lit (.bool true)], args := [d1, d2, d3] }
  | _ => none }
def fnExactFlushAtRow : OpenClaim := { program := "ytgncimlojbnbfaa", sum := "a9d0dc70f63798152a20130d2dfbb211dbbc6d3e141f410537cae36ff5e68de6", func := "loop.example/g00490/laws.FnExactFlushAt", spec := "fnExactFlushAt", unfollowed := true, recurses := true, apart := false }
def FnExactFlushAtSaid : Prop := fnExactFlushAtRow.holds Try.pinned (OpenSpec.ofChange fnExactFlushAtSpec)

/-- ITS FALSE NEIGHBOUR: 'it returns false'. Refute it at one input. -/
def fnExactFlushAtWrong : ChangeSpec := { name := "fnExactFlushAt", fn := fun _ => fun
  | [d1, d2, d3] => { results := [.lit (.bool false)], args := [d1, d2, d3] }
  | _ => none }
def FnExactFlushAtWrongFalsely : Prop := fnExactFlushAtRow.holds Try.pinned (OpenSpec.ofChange fnExactFlushAtWrong)

/- THE SECOND FORM. 'bulk': how many values and letters a reading holds, each counted each time it is reached (what is shared counts as often as it is met; a slice's spare places count too). A statement '..UptoSaid' is the law's where the arguments, and the package variables that the reading takes, are together of bulk at most 1048576: NARROWER than '..Said'. Prove '..Said' where nothing that the law and all that it calls make is longer than what came in: it says more and counts as full. Else prove '..UptoSaid'. A law counts once. -/
mutual
def uptoBulk {H : Type} : DataW H → Nat
  | .lit (.string bytes) => bytes.length + 1
  | .lit _ => 1
  | .nil => 1
  | .ptr d => uptoBulk d + 1
  | .slice elems spare => uptoBulkAll elems + uptoBulkAll spare + 1
  | .agg parts => uptoBulkAll parts + 1
  | .iface _ d => uptoBulk d + 1
  | .map entries => uptoBulkEntries entries + 1
  | .held _ => 1
def uptoBulkAll {H : Type} : List (DataW H) → Nat
  | [] => 0
  | d :: r => uptoBulk d + uptoBulkAll r
def uptoBulkEntries {H : Type} : List (Lit × DataW H) → Nat
  | [] => 0
  | x :: r => uptoBulkEntry x + uptoBulkEntries r
def uptoBulkEntry {H : Type} : Lit × DataW H → Nat
  | (.string bytes, d) => bytes.length + uptoBulk d + 1
  | (_, d) => uptoBulk d + 1
 end
def uptoSmall : (H : Type) → List (DataW H) → Bool := fun _ ds => decide (uptoBulkAll ds ≤ 1048576)
def OpenSpec.upto (s : _root_.Go.ChangeSpec) : _root_.Go.OpenSpec := { _root_.Go.OpenSpec.ofChange s with cond := some uptoSmall }

/-- 'laws.FnExactGroupsOk', WHERE WHAT IT READS IS OF BULK AT MOST 1048576: true; the input reads as it did. -/
def fnExactGroupsOkUptoRow : OpenClaim := { program := "ytgncimlojbnbfaa", sum := "a9d0dc70f63798152a20130d2dfbb211dbbc6d3e141f410537cae36ff5e68de6", func := "loop.example/g00490/laws.FnExactGroupsOk", spec := "fnExactGroupsOk", unfollowed := true, recurses := true, apart := false, narrowed := true }
def FnExactGroupsOkUptoSaid : Prop := fnExactGroupsOkUptoRow.holds Try.pinned (OpenSpec.upto fnExactGroupsOkSpec)

/-- 'laws.FnExactGroupOf', WHERE WHAT IT READS IS OF BULK AT MOST 1048576: true; the input reads as it did. -/
def fnExactGroupOfUptoRow : OpenClaim := { program := "ytgncimlojbnbfaa", sum := "a9d0dc70f63798152a20130d2dfbb211dbbc6d3e141f410537cae36ff5e68de6", func := "loop.example/g00490/laws.FnExactGroupOf", spec := "fnExactGroupOf", unfollowed := true, recurses := true, apart := false, narrowed := true }
def FnExactGroupOfUptoSaid : Prop := fnExactGroupOfUptoRow.holds Try.pinned (OpenSpec.upto fnExactGroupOfSpec)

/-- 'laws.FnExactGroupAt', WHERE WHAT IT READS IS OF BULK AT MOST 1048576: true; the input reads as it did. -/
def fnExactGroupAtUptoRow : OpenClaim := { program := "ytgncimlojbnbfaa", sum := "a9d0dc70f63798152a20130d2dfbb211dbbc6d3e141f410537cae36ff5e68de6", func := "loop.example/g00490/laws.FnExactGroupAt", spec := "fnExactGroupAt", unfollowed := true, recurses := true, apart := false, narrowed := true }
def FnExactGroupAtUptoSaid : Prop := fnExactGroupAtUptoRow.holds Try.pinned (OpenSpec.upto fnExactGroupAtSpec)

/-- 'laws.FnExactJoinAll', WHERE WHAT IT READS IS OF BULK AT MOST 1048576: true; the input reads as it did. -/
def fnExactJoinAllUptoRow : OpenClaim := { program := "ytgncimlojbnbfaa", sum := "a9d0dc70f63798152a20130d2dfbb211dbbc6d3e141f410537cae36ff5e68de6", func := "loop.example/g00490/laws.FnExactJoinAll", spec := "fnExactJoinAll", unfollowed := true, recurses := true, apart := false, narrowed := true }
def FnExactJoinAllUptoSaid : Prop := fnExactJoinAllUptoRow.holds Try.pinned (OpenSpec.upto fnExactJoinAllSpec)

/-- 'laws.FnExactFlushAt', WHERE WHAT IT READS IS OF BULK AT MOST 1048576: true; the input reads as it did. -/
def fnExactFlushAtUptoRow : OpenClaim := { program := "ytgncimlojbnbfaa", sum := "a9d0dc70f63798152a20130d2dfbb211dbbc6d3e141f410537cae36ff5e68de6", func := "loop.example/g00490/laws.FnExactFlushAt", spec := "fnExactFlushAt", unfollowed := true, recurses := true, apart := false, narrowed := true }
def FnExactFlushAtUptoSaid : Prop := fnExactFlushAtUptoRow.holds Try.pinned (OpenSpec.upto fnExactFlushAtSpec)

end Rows
end Go.Proofs.Ytgncimlojbnbfaa
