/-
  No cell of these rows narrows 'for every input' (looked for: loops, veiled, ifaces, maps, wideKeys, modest, calm, conditions, laid).
  DERIVED. THE GIVEN ROWS OF THIS SEAT. 6 by the template 'for every input the law returns true; each argument reads behind the call as it read before'; 0 by the template 'total and deterministic' (their statements: YtbjffmokibpgmaaTotals.lean).
  GIVEN WITH THE SEED: the statements are not yours to turn. If you find one false, say at which input.
  Laid BY PROGRAM, IN A SANDBOX (cutbox-rows.mjs): the forced cells as the released guide's own fill.sh prints them over the translation 191b8c53493a8d97… (all of the seat's roots in one cut). By AI agents, Wed Nov 11 2026. No macro, syntax, notation, axiom, sorry.
-/
import Derived.Test.YtbjffmokibpgmaaChecked
import GoSem.Claim
import GoSem.ClaimJoined
import GoSem.ClaimMapViews
import Derived.JoinedTies
import Derived.KernelRfl
namespace Go.Proofs.Ytbjffmokibpgmaa
/- THE CELL 'sum', in the pinned program and in every row, IS THE sha256 OF THE DUMP (.gsa) THAT YtbjffmokibpgmaaProg.lean LOADS. Nothing in Lean hashes anything: it is a label: what it is worth is what the hold of that sum in a sandbox is worth. -/
noncomputable def Try.pinned : Pinned := { name := "ytbjffmokibpgmaa", sum := "191b8c53493a8d9713c8e126fa599f2b0234c2ffa2fd0feecfa3f672b8edbdad", checked := Try.checked }
namespace Rows
def none {H : Type} : Left H := { results := [], args := [] }

/-- 'laws.FnChains': WHATEVER THE INPUT: true; the input reads as it did. -/
def fnChainsSpec : ChangeSpec := { name := "fnChains", fn := fun _ => fun
  | [d] => { results := [.lit (.bool true)], args := [d] }
  | _ => none }
def fnChainsRow : OpenClaim := { program := "ytbjffmokibpgmaa", sum := "191b8c53493a8d9713c8e126fa599f2b0234c2ffa2fd0feecfa3f672b8edbdad", func := "loop.example/g00490/laws.FnChains", spec := "fnChains", inPlace := ["internal/abi.NoEscape", "internal/bytealg.MakeNoZero"], unfollowed := true, recurses := true, apart := false }
def FnChainsSaid : Prop := fnChainsRow.holds Try.pinned (OpenSpec.ofChange fnChainsSpec)

/-- ITS FALSE NEIGHBOUR: 'it returns false'. Refute it at one input. -/
def fnChainsWrong : ChangeSpec := { name := "fnChains", fn := fun _ => fun
  | [d] => { results := [.lit (.bool false)], args := [d] }
  | _ => none }
def FnChainsWrongFalsely : Prop := fnChainsRow.holds Try.pinned (OpenSpec.ofChange fnChainsWrong)

/-- 'laws.FnExactChainOk': WHATEVER THE INPUT: true; the input reads as it did. -/
def fnExactChainOkSpec : ChangeSpec := { name := "fnExactChainOk", fn := fun _ => fun
  | [d] => { results := [.lit (.bool true)], args := [d] }
  | _ => none }
def fnExactChainOkRow : OpenClaim := { program := "ytbjffmokibpgmaa", sum := "191b8c53493a8d9713c8e126fa599f2b0234c2ffa2fd0feecfa3f672b8edbdad", func := "loop.example/g00490/laws.FnExactChainOk", spec := "fnExactChainOk", inPlace := ["internal/abi.NoEscape", "internal/bytealg.MakeNoZero"], unfollowed := true, recurses := true, apart := false }
def FnExactChainOkSaid : Prop := fnExactChainOkRow.holds Try.pinned (OpenSpec.ofChange fnExactChainOkSpec)

/-- ITS FALSE NEIGHBOUR: 'it returns false'. Refute it at one input. -/
def fnExactChainOkWrong : ChangeSpec := { name := "fnExactChainOk", fn := fun _ => fun
  | [d] => { results := [.lit (.bool false)], args := [d] }
  | _ => none }
def FnExactChainOkWrongFalsely : Prop := fnExactChainOkRow.holds Try.pinned (OpenSpec.ofChange fnExactChainOkWrong)

/-- 'laws.FnExactSameChain': WHATEVER THE INPUT: true; the input reads as it did. -/
def fnExactSameChainSpec : ChangeSpec := { name := "fnExactSameChain", fn := fun _ => fun
  | [d1, d2] => { results := [.lit (.bool true)], args := [d1, d2] }
  | _ => none }
def fnExactSameChainRow : OpenClaim := { program := "ytbjffmokibpgmaa", sum := "191b8c53493a8d9713c8e126fa599f2b0234c2ffa2fd0feecfa3f672b8edbdad", func := "loop.example/g00490/laws.FnExactSameChain", spec := "fnExactSameChain", unfollowed := true, recurses := true, apart := false }
def FnExactSameChainSaid : Prop := fnExactSameChainRow.holds Try.pinned (OpenSpec.ofChange fnExactSameChainSpec)

/-- ITS FALSE NEIGHBOUR: 'it returns false'. Refute it at one input. -/
def fnExactSameChainWrong : ChangeSpec := { name := "fnExactSameChain", fn := fun _ => fun
  | [d1, d2] => { results := [.lit (.bool false)], args := [d1, d2] }
  | _ => none }
def FnExactSameChainWrongFalsely : Prop := fnExactSameChainRow.holds Try.pinned (OpenSpec.ofChange fnExactSameChainWrong)

/-- 'laws.FnExactInChain': WHATEVER THE INPUT: true; the input reads as it did. -/
def fnExactInChainSpec : ChangeSpec := { name := "fnExactInChain", fn := fun _ => fun
  | [d1, d2] => { results := [.lit (.bool true)], args := [d1, d2] }
  | _ => none }
def fnExactInChainRow : OpenClaim := { program := "ytbjffmokibpgmaa", sum := "191b8c53493a8d9713c8e126fa599f2b0234c2ffa2fd0feecfa3f672b8edbdad", func := "loop.example/g00490/laws.FnExactInChain", spec := "fnExactInChain", unfollowed := true, recurses := true, apart := false }
def FnExactInChainSaid : Prop := fnExactInChainRow.holds Try.pinned (OpenSpec.ofChange fnExactInChainSpec)

/-- ITS FALSE NEIGHBOUR: 'it returns false'. Refute it at one input. -/
def fnExactInChainWrong : ChangeSpec := { name := "fnExactInChain", fn := fun _ => fun
  | [d1, d2] => { results := [.lit (.bool false)], args := [d1, d2] }
  | _ => none }
def FnExactInChainWrongFalsely : Prop := fnExactInChainRow.holds Try.pinned (OpenSpec.ofChange fnExactInChainWrong)

/-- 'laws.FnExactPutChain': WHATEVER THE INPUT: true; the input reads as it did. -/
def fnExactPutChainSpec : ChangeSpec := { name := "fnExactPutChain", fn := fun _ => fun
  | [d1, d2] => { results := [.lit (.bool true)], args := [d1, d2] }
  | _ => none }
def fnExactPutChainRow : OpenClaim := { program := "ytbjffmokibpgmaa", sum := "191b8c53493a8d9713c8e126fa599f2b0234c2ffa2fd0feecfa3f672b8edbdad", func := "loop.example/g00490/laws.FnExactPutChain", spec := "fnExactPutChain", unfollowed := true, recurses := true, apart := false }
def FnExactPutChainSaid : Prop := fnExactPutChainRow.holds Try.pinned (OpenSpec.ofChange fnExactPutChainSpec)

/-- ITS FALSE NEIGHBOUR: 'it returns false'. Refute it at one input. -/
def fnExactPutChainWrong : ChangeSpec := { name := "fnExactPutChain", fn := fun _ => fun
  | [d1, d2] => { results := [.lit (.bool false)], args := [d1, d2] }
  | _ => none }
def FnExactPutChainWrongFalsely : Prop := fnExactPutChainRow.holds Try.pinned (OpenSpec.ofChange fnExactPutChainWrong)

/-- 'laws.FnExactDropOver': WHATEVER THE INPUT: true; the input reads as it did. -/
def fnExactDropOverSpec : ChangeSpec := { name := "fnExactDropOver", fn := fun _ => fun
  | [d1, d2] => { results := [.lit (.bool true)], args := [d1, d2] }
  | _ => none }
def fnExactDropOverRow : OpenClaim := { program := "ytbjffmokibpgmaa", sum := "191b8c53493a8d9713c8e126fa599f2b0234c2ffa2fd0feecfa3f672b8edbdad", func := "loop.example/g00490/laws.FnExactDropOver", spec := "fnExactDropOver", unfollowed := true, recurses := true, apart := false }
def FnExactDropOverSaid : Prop := fnExactDropOverRow.holds Try.pinned (OpenSpec.ofChange fnExactDropOverSpec)

/-- ITS FALSE NEIGHBOUR: 'it returns false'. Refute it at one input. -/
def fnExactDropOverWrong : ChangeSpec := { name := "fnExactDropOver", fn := fun _ => fun
  | [d1, d2] => { results := [.lit (.bool false)], args := [d1, d2] }
  | _ => none }
def FnExactDropOverWrongFalsely : Prop := fnExactDropOverRow.holds Try.pinned (OpenSpec.ofChange fnExactDropOverWrong)

/- THE SECOND FORM. 'bulk': how many values and letters a reading holds, each counted each time it is reached (what is shared counts as often as it is met; a slice's spare places count too). A statement '..UptoSaid' is the law's where the arguments, and the package variables that the reading takes, are together of bulk at most 1048576: NARROWER than '..Said'. Prove '..Said' where nothing that the law and all that it calls make is longer than what came in: it says more and counts as full. Else prove '..UptoSaid'. A law counts once. -/
mutual
def uptoBulk {H : Type} : DataW H → Nat
  | .lit (.string bytes) => bytes.length + 1
  | .lit _ => 1
  | .nil => 1
  | .ptr d => uptoBulk d + 1
  | .slice elems spare => uptoBulkAll elems + uptoBulkAll spare + 1
  | .agg parts => uptoBulkAll parts + 1
  | .iface _ d => uptoBulk d + 1
  | .map entries => uptoBulkEntries entries + 1
  | .held _ => 1
def uptoBulkAll {H : Type} : List (DataW H) → Nat
  | [] => 0
  | d :: r => uptoBulk d + uptoBulkAll r
def uptoBulkEntries {H : Type} : List (Lit × DataW H) → Nat
  | [] => 0
  | x :: r => uptoBulkEntry x + uptoBulkEntries r
def uptoBulkEntry {H : Type} : Lit × DataW H → Nat
  | (.string bytes, d) => bytes.length + uptoBulk d + 1
  | (_, d) => uptoBulk d + 1
 end
def uptoSmall : (H : Type) → List (DataW H) → Bool := fun _ ds => decide (uptoBulkAll ds ≤ 1048576)
def OpenSpec.upto (s : _root_.Go.ChangeSpec) : _root_.Go.OpenSpec := { _root_.Go.OpenSpec.ofChange s with cond := some uptoSmall }

/-- 'laws.FnChains', WHERE WHAT IT READS IS OF BULK AT MOST 1048576: true; the input reads as it did. -/
def fnChainsUptoRow : OpenClaim := { program := "ytbjffmokibpgmaa", sum := "191b8c53493a8d9713c8e126fa599f2b0234c2ffa2fd0feecfa3f672b8edbdad", func := "loop.example/g00490/laws.FnChains", spec := "fnChains", inPlace := ["internal/abi.NoEscape", "internal/bytealg.MakeNoZero"], unfollowed := true, recurses := true, apart := false, narrowed := true }
def FnChainsUptoSaid : Prop := fnChainsUptoRow.holds Try.pinned (OpenSpec.upto fnChainsSpec)

/-- 'laws.FnExactChainOk', WHERE WHAT IT READS IS OF BULK AT MOST 1048576: true; the input reads as it did. -/
def fnExactChainOkUptoRow : OpenClaim := { program := "ytbjffmokibpgmaa", sum := "191b8c53493a8d9713c8e126fa599f2b0234c2ffa2fd0feecfa3f672b8edbdad", func := "loop.example/g00490/laws.FnExactChainOk", spec := "fnExactChainOk", inPlace := ["internal/abi.NoEscape", "internal/bytealg.MakeNoZero"], unfollowed := true, recurses := true, apart := false, narrowed := true }
def FnExactChainOkUptoSaid : Prop := fnExactChainOkUptoRow.holds Try.pinned (OpenSpec.upto fnExactChainOkSpec)

/-- 'laws.FnExactSameChain', WHERE WHAT IT READS IS OF BULK AT MOST 1048576: true; the input reads as it did. -/
def fnExactSameChainUptoRow : OpenClaim := { program := "ytbjffmokibpgmaa", sum := "191b8c53493a8d9713c8e126fa599f2b0234c2ffa2fd0feecfa3f672b8edbdad", func := "loop.example/g00490/laws.FnExactSameChain", spec := "fnExactSameChain", unfollowed := true, recurses := true, apart := false, narrowed := true }
def FnExactSameChainUptoSaid : Prop := fnExactSameChainUptoRow.holds Try.pinned (OpenSpec.upto fnExactSameChainSpec)

/-- 'laws.FnExactInChain', WHERE WHAT IT READS IS OF BULK AT MOST 1048576: true; the input reads as it did. -/
def fnExactInChainUptoRow : OpenClaim := { program := "ytbjffmokibpgmaa", sum := "191b8c53493a8d9713c8e126fa599f2b0234c2ffa2fd0feecfa3f672b8edbdad", func := "loop.example/g00490/laws.FnExactInChain", spec := "fnExactInChain", unfollowed := true, recurses := true, apart := false, narrowed := true }
def FnExactInChainUptoSaid : Prop := fnExactInChainUptoRow.holds Try.pinned (OpenSpec.upto fnExactInChainSpec)

/-- 'laws.FnExactPutChain', WHERE WHAT IT READS IS OF BULK AT MOST 1048576: true; the input reads as it did. -/
def fnExactPutChainUptoRow : OpenClaim := { program := "ytbjffmokibpgmaa", sum := "191b8c53493a8d9713c8e126fa599f2b0234c2ffa2fd0feecfa3f672b8edbdad", func := "loop.example/g00490/laws.FnExactPutChain", spec := "fnExactPutChain", unfollowed := true, recurses := true, apart := false, narrowed := true }
def FnExactPutChainUptoSaid : Prop := fnExactPutChainUptoRow.holds Try.pinned (OpenSpec.upto fnExactPutChainSpec)

/-- 'laws.FnExactDropOver', WHERE WHAT IT READS IS OF BULK AT MOST 1048576: true; the input reads as it did. -/
def fnExactDropOverUptoRow : OpenClaim := { program := "ytbjffmokibpgmaa", sum := "191b8c53493a8d9713c8e126fa599f2b0234c2ffa2fd0feecfa3f672b8edbdad", func := "loop.example/g00490/laws.FnExactDropOver", spec := "fnExactDropOver", unfollowed := true, recurses := true, apart := false, narrowed := true }
def FnExactDropOverUptoSaid : Prop := fnExactDropOverUptoRow.holds Try.pinned (OpenSpec.upto fnExactDropOverSpec)

end Rows
end Go.Proofs.Ytbjffmokibpgmaa
