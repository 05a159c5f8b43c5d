/-
  quorateref02.Sum: SHA-256 by whole blocks.
-/
import Derived.Test.YtlokjbjpmhfkhaaDoorRfU
namespace Go.Proofs.YtlokjbjpmhfkhaaDoor
open Go.RowKit

end Go.Proofs.YtlokjbjpmhfkhaaDoor
