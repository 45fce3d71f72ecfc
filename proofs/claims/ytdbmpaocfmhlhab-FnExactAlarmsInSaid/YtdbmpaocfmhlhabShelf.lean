/-
  PROVED: nothing: this seat's road calls nothing of the library that wants a contract laid.
-/
import Derived.Test.YtdbmpaocfmhlhabRows
import Derived.Shelf.Strings.OnBuilder
import Derived.WalkKit
namespace Go.Proofs.Ytdbmpaocfmhlhab.Shelf
end Go.Proofs.Ytdbmpaocfmhlhab.Shelf
