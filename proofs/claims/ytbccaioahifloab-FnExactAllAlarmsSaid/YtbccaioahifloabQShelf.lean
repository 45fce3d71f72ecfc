/-
  PROVED: nothing: this seat's road calls nothing of the library that wants a contract laid.
-/
import Derived.Test.YtbccaioahifloabRows
import Derived.Shelf.Strings.OnBuilder
import Derived.WalkKit
namespace Go.Proofs.Ytbccaioahifloab.Shelf
end Go.Proofs.Ytbccaioahifloab.Shelf
