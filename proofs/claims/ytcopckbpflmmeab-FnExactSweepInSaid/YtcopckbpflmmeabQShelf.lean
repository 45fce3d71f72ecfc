/-
  PROVED: nothing: this seat's road calls nothing of the library that wants a contract laid.
-/
import Derived.Test.YtcopckbpflmmeabRows
import Derived.Shelf.Strings.OnBuilder
import Derived.WalkKit
namespace Go.Proofs.Ytcopckbpflmmeab.Shelf
end Go.Proofs.Ytcopckbpflmmeab.Shelf
