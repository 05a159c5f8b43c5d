/-
  The two errors that are listed: where their variables are.
-/
import Derived.Test.YthjcgdcmbedhnaaDoorEv
namespace Go.Proofs.YthjcgdcmbedhnaaDoor
def gix : List Nat := [1, 0]
end Go.Proofs.YthjcgdcmbedhnaaDoor
