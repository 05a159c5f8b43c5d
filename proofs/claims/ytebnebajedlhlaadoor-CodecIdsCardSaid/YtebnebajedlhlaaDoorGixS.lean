/-
  The two errors that are listed: where their variables are.
-/
import Derived.Test.YtebnebajedlhlaaDoorM9ij
namespace Go.Proofs.YtebnebajedlhlaaDoor
def gix : List Nat := [1, 0]
end Go.Proofs.YtebnebajedlhlaaDoor
